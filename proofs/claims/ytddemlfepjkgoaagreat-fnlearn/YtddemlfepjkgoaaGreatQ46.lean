import Derived.Deep.DrawnRows
import Derived.Test.YtddemlfepjkgoaaGreatQ45
set_option linter.all false
set_option maxRecDepth 200000
set_option maxHeartbeats 16000000
namespace Go.Proofs.YtddemlfepjkgoaaGreat
open Go.RowKit
theorem valid_rulesF{p:List E}(h:validP p=true){i:Nat}(hi:i<p.length):∀t,t<(p.getD i E.zero).rules.length->validR ((p.getD i E.zero).rules.getD t [])=true:=by
 have h1:=validP_step h hi;rw[stepOk,Bool.and_eq_true,validE,Bool.and_eq_true,Bool.and_eq_true]at h1;exact fun t ht=>(all_getD [] validR _).1 h1.2.2 t ht
theorem implAllows_yes(p:List E)(c:C)(a a':Option Addr)(cap cap':Nat)(w:World)(hs:LSrc 3 PE w a p)(hu:USrc w a' c.args)(ho:okP p)(hok:∀y∈c.args,isU64 y)(hn:p.length<=16777216)(hv:validP p=true)(g6:c.args.length=6)
 (HV:Hid (∀w1,Below w.heap.size w w1->Calls Tryz.prog 7 #[.agg #[.slice a p.length cap]] w1 fun e w'=>e=.returned (.bool true)∧Below w1.heap.size w1 w')):
 Calls Tryz.prog 9 #[.agg #[.slice a p.length cap],.agg #[.int .u32 c.arch,.int .u32 c.nr,.slice a' 6 cap']] w fun e w'=>e=.returned (.bool (p.any fun e=>hits e c))∧Below w.heap.size w w':=by
 have HC:Hid (∀w1,Calls Tryz.prog 22 #[.agg #[.int .u32 c.arch,.int .u32 c.nr,.slice a' 6 cap']] w1 fun e w'=>e=.returned (.bool true)∧Below w1.heap.size w1 w'):=fun w1=>validCall_any _ _ 6 cap' a' w1 (by omega)
 have HP:Hid (∀wr,Below w.heap.size w wr->∀i,i<p.length->∃b o,a=some ⟨b,o,none⟩∧b<wr.heap.size∧PE wr b (o+i*3) (p.getD i E.zero)):=fun wr hB i hi=>(hs.below PE.stays hB).at hi E.zero
 have HN:Hid ((∀i,i<p.length->meets (p.getD i E.zero) c=false)->(p.any fun e=>hits e c)=false):=fun h=>any_no (d:=E.zero) (fun i hi=>by rw[hits,h i hi,Bool.false_and])
 have HY:Hid (∀i,i<p.length->meets (p.getD i E.zero) c=true->(p.any fun e=>hits e c)=(p.getD i E.zero).rules.any fun r=>ruleHolds r c.args):=fun i hi h=>allows_first hv hi h
 have HR:Hid (∀i,i<p.length->∀w1 a2 cap2,Below w.heap.size w w1->LSrc 1 PR w1 a2 (p.getD i E.zero).rules->Calls Tryz.prog 36 #[.slice a2 (p.getD i E.zero).rules.length cap2,.slice a' 6 cap'] w1 fun e w'=>e=.returned (.bool ((p.getD i E.zero).rules.any fun r=>ruleHolds r c.args))∧Below w1.heap.size w1 w'):=fun i hi w1 a2 cap2 hb hsr=>
  someRule_any _ c.args a2 a' cap2 cap' w1 hsr (hu.below hb) (okP_at ho i).2.2 hok (valid_rulesF hv hi) g6 (valid_entry hv hi).1
 have HM:Hid (∀e:E,meets e c=(e.arch==c.arch&&e.nr==c.nr)):=fun e=>rfl
 have B:Below w.heap.size w ((w.alloc (.cells #[.slice a p.length cap] 30)).alloc (.cells #[.int .u32 c.arch,.int .u32 c.nr,.slice a' 6 cap'] 39)):=((Below.refl _ _).alloc (Nat.le_refl _) _).alloc (by simp) _
 have x0:=cell_step ((Below.refl _ _).alloc (Nat.le_refl _) (.cells #[.int .u32 c.arch,.int .u32 c.nr,.slice a' 6 cap'] 39)) (box1 w 30 (.slice a p.length cap))
 have Y:=BoxK.new (w.alloc (.cells #[.slice a p.length cap] 30)) 39 (.int .u32 c.arch) (.int .u32 c.nr) (.slice a' 6 cap')
 have hsz:(w.alloc (.cells #[.slice a p.length cap] 30)).heap.size=w.heap.size+1:=by simp
 rw[hsz]at Y
 clear hsz
 obtain⟨V,hV⟩:∃V,(p.any fun e=>hits e c)=V:=⟨_,rfl⟩
 rw[hV]at HN HY⊢
 clear hV hs hu ho hok hv g6
 generalize p.length=n at*
 obtain⟨carch,cnr,args⟩:=c
 simp only at*
 go_enter Tryz.func9,Tryz.ntmps9
 go_wp2_with fail
 refine(HV.out _ B).mono ?_
 rintro _ w1⟨rfl,hb1⟩
 have B1:=below_step hb1 B
 have x1:=cell_step hb1 x0
 have Y1:=Y.keep hb1
 have y0:=Y1.c0
 have y1:=Y1.c1
 have y2:=Y1.c2
 clear hb1 B x0 Y HV
 go_wp2_with fail
 refine(HC.out _).mono ?_
 rintro _ w2⟨rfl,hb2⟩
 have B2:=below_step hb2 B1
 have x2:=cell_step hb2 x1
 have Y2:=Y1.keep hb2
 clear hb2 B1 x1 Y1 y0 y1 y2 HC
 go_wp2_with fail
 go_loopw [18](fun i wr=>∃k:Nat,k<=n∧i=.int .i64 k∧Hid (∀j,j<k->meets (p.getD j E.zero) ⟨carch,cnr,args⟩=false)∧BoxK wr (w.heap.size+1) (.int .u32 carch) (.int .u32 cnr) (.slice a' 6 cap')∧Below w.heap.size w wr)(fun i _=>n-(intOf i).toNat)
 case atStart=>exact⟨0,by omega,rfl,fun j hj=>by omega,Y2,B2⟩
 case round=>
  clear B2 x2 Y2
  obtain⟨k,hk,rfl,HJ0,Y,B⟩:=hrel
  rename World=>W0
  by_cases hkn:k<n
  ·have hkn':(k:Int)<(n:Int):=by omega
   have HStep:Hid (meets (p.getD k E.zero) ⟨carch,cnr,args⟩=false->∀j,j<k+1->meets (p.getD j E.zero) ⟨carch,cnr,args⟩=false):=fun h j hj=>by
    by_cases hjk:j=k
    ·subst hjk;exact h
    ·exact HJ0.out j (by omega)
   have HYes:=HY.out k hkn
   have HRk:=HR.out k hkn
   have HMk:=HM.out (p.getD k E.zero)
   obtain⟨b,o,rfl,hlt,c0,c1,ar,capr,c2,hsr⟩:=HP.out W0 B k hkn
   generalize hhq:meets (p.getD k E.zero) ⟨carch,cnr,args⟩=Hq at*
   clear hhq
   generalize p.getD k E.zero=e at*
   obtain⟨arch,nr,rules⟩:=e
   simp only at c0 c1 c2 hsr HRk HMk HYes
   generalize(rules.any fun r=>ruleHolds r args)=A at*
   have Xe:=BoxK.new W0 78 (.int .u32 arch) (.int .u32 nr) (.slice ar rules.length capr)
   have Bx:Below W0.heap.size W0 (W0.alloc (.cells #[.int .u32 arch,.int .u32 nr,.slice ar rules.length capr] 78)):=(Below.refl _ _).alloc (Nat.le_refl _) _
   have HRo:Hid (Calls Tryz.prog 36 #[.slice ar rules.length capr,.slice a' 6 cap'] (W0.alloc (.cells #[.int .u32 arch,.int .u32 nr,.slice ar rules.length capr] 78)) fun e w'=>e=.returned (.bool A)∧Below (W0.alloc (.cells #[.int .u32 arch,.int .u32 nr,.slice ar rules.length capr] 78)).heap.size (W0.alloc (.cells #[.int .u32 arch,.int .u32 nr,.slice ar rules.length capr] 78)) w'):=HRk _ ar capr (below_step Bx B) (hsr.below PR.stays Bx)
   have HYk:Hid (Hq=true->V=A):=HYes
   have HMk':Hid (Hq=(arch==carch&&nr==cnr)):=HMk
   clear hsr HP HN HY HR HM HJ0 HRk HYes HMk
   generalize rules.length=m at*
   have Y1:=Y.keep Bx
   have hny:=World.new_ne W0 _ Y.c0
   have y0:=Y1.c0
   have y1:=Y1.c1
   have y2:=Y1.c2
   have B6:=below_step Bx B
   by_cases h1:arch=carch
   ·subst h1
    by_cases h2:nr=cnr
    ·subst h2
     have hVA:V=A:=HYk.out (by rw[HMk'.out];simp)
     subst hVA
     clear HMk' HYk HStep
     go_wp2_with fail
     refine(HRo.out).mono ?_
     rintro _ w5⟨rfl,hb5⟩
     have B7:=below_step hb5 B6
     go_wp2
     go_ret
     exact⟨rfl,B7⟩
    ·have hb2:(nr==cnr)=false:=by rw[beq_eq_false_iff_ne];exact h2
     have HG:Hid (∀j,j<k+1->meets (p.getD j E.zero) ⟨arch,cnr,args⟩=false):=HStep.out (by rw[HMk'.out];simp[h2])
     clear HStep HMk' HYk HRo
     go_wp2
     go_roundw
     case rel=>exact⟨k+1,by omega,by go_num,HG,Y1,B6⟩
     case measure=>simp[intOf];omega
   ·have hb1:(arch==carch)=false:=by rw[beq_eq_false_iff_ne];exact h1
    have HG:Hid (∀j,j<k+1->meets (p.getD j E.zero) ⟨carch,cnr,args⟩=false):=HStep.out (by rw[HMk'.out];simp[h1])
    clear HStep HMk' HYk HRo
    go_wp2
    go_roundw
    case rel=>exact⟨k+1,by omega,by go_num,HG,Y1,B6⟩
    case measure=>simp[intOf];omega
  ·have hk':k=n:=by omega
   subst hk'
   have hVf:V=false:=HN.out HJ0.out
   subst hVf
   go_wp2
   go_ret
   exact⟨rfl,B⟩
theorem implAllows_no1(n m ca cn:Nat)(x y:Int)(a a':Option Addr)(cap cap':Nat)(w:World)
 (HV:Hid (∀w1,Below w.heap.size w w1->Calls Tryz.prog 7 #[.agg #[.slice a n cap]] w1 fun e w'=>e=.returned (.bool false)∧Below w1.heap.size w1 w')):
 Calls Tryz.prog 9 #[.agg #[.slice a n cap],.agg #[.int .u32 x,.int .u32 y,.slice a' m cap']] w fun e w'=>e=.returned (.bool false)∧Below w.heap.size w w':=by
 have B:Below w.heap.size w ((w.alloc (.cells #[.slice a n cap] 30)).alloc (.cells #[.int .u32 x,.int .u32 y,.slice a' m cap'] 39)):=((Below.refl _ _).alloc (Nat.le_refl _) _).alloc (by simp) _
 go_enter Tryz.func9,Tryz.ntmps9
 go_wp2_with fail
 refine(HV.out _ B).mono ?_
 rintro _ w1⟨rfl,hb1⟩
 have B1:=below_step hb1 B
 go_wp2
 go_ret
 exact⟨rfl,B1⟩
theorem implAllows_no2(n m:Nat)(x y:Int)(a a':Option Addr)(cap cap':Nat)(w:World)
 (HV:Hid (∀w1,Below w.heap.size w w1->Calls Tryz.prog 7 #[.agg #[.slice a n cap]] w1 fun e w'=>e=.returned (.bool true)∧Below w1.heap.size w1 w'))
 (HC:Hid (∀w1,Calls Tryz.prog 22 #[.agg #[.int .u32 x,.int .u32 y,.slice a' m cap']] w1 fun e w'=>e=.returned (.bool false)∧Below w1.heap.size w1 w')):
 Calls Tryz.prog 9 #[.agg #[.slice a n cap],.agg #[.int .u32 x,.int .u32 y,.slice a' m cap']] w fun e w'=>e=.returned (.bool false)∧Below w.heap.size w w':=by
 have B:Below w.heap.size w ((w.alloc (.cells #[.slice a n cap] 30)).alloc (.cells #[.int .u32 x,.int .u32 y,.slice a' m cap'] 39)):=((Below.refl _ _).alloc (Nat.le_refl _) _).alloc (by simp) _
 have Y:=BoxK.new (w.alloc (.cells #[.slice a n cap] 30)) 39 (.int .u32 x) (.int .u32 y) (.slice a' m cap')
 have hsz:(w.alloc (.cells #[.slice a n cap] 30)).heap.size=w.heap.size+1:=by simp
 rw[hsz]at Y
 clear hsz
 go_enter Tryz.func9,Tryz.ntmps9
 go_wp2_with fail
 refine(HV.out _ B).mono ?_
 rintro _ w1⟨rfl,hb1⟩
 have B1:=below_step hb1 B
 have Y1:=Y.keep hb1
 have y0:=Y1.c0
 have y1:=Y1.c1
 have y2:=Y1.c2
 go_wp2_with fail
 refine(HC.out _).mono ?_
 rintro _ w2⟨rfl,hb2⟩
 have B2:=below_step hb2 B1
 go_wp2
 go_ret
 exact⟨rfl,B2⟩
theorem implAllows_any(p:List E)(c:C)(a a':Option Addr)(cap cap':Nat)(w:World)(hs:LSrc 3 PE w a p)(hu:USrc w a' c.args)(ho:okP p)(hok:∀y∈c.args,isU64 y)(hl:c.args.length<=16777216)(hn:p.length<=16777216)(hm:∀e∈p,e.rules.length<=16777216)(hm2:∀e∈p,∀r∈e.rules,r.length<=16777216):
 Calls Tryz.prog 9 #[.agg #[.slice a p.length cap],.agg #[.int .u32 c.arch,.int .u32 c.nr,.slice a' c.args.length cap']] w fun e w'=>e=.returned (.bool (allowsP p c))∧Below w.heap.size w w':=by
 have HV:∀w1,Below w.heap.size w w1->Calls Tryz.prog 7 #[.agg #[.slice a p.length cap]] w1 fun e w'=>e=.returned (.bool (validP p))∧Below w1.heap.size w1 w':=fun w1 hb=>implValidP_any p a cap w1 (hs.below PE.stays hb) ho hn hm hm2
 rw[allowsP_eq]
 cases hv:validP p with
 |false=>
  rw[hv]at HV;exact implAllows_no1 _ _ 0 0 _ _ _ _ _ _ w HV
 |true=>
  rw[hv]at HV;by_cases g6:c.args.length=6
  ·have:=implAllows_yes p c a a' cap cap' w hs hu ho hok hn hv g6 HV;rw[g6];simpa using this
  have hb7:(c.args.length==6)=false:=by rw[beq_eq_false_iff_ne];exact g6
  rw[hb7];refine implAllows_no2 _ _ _ _ _ _ _ _ w HV (fun w1=> ?_);have:=validCall_any c.arch c.nr c.args.length cap' a' w1 hl;rw[hb7]at this;exact this
end Go.Proofs.YtddemlfepjkgoaaGreat
namespace Go.Proofs.YtddemlfepjkgoaaGreat
def isWord(a:Int):Prop:=0<=a∧a<=4294967295
structure S where
 a:Int
 x:Int
 m:Nat->Int
def S.ok(s:S):Prop:=isWord s.a∧isWord s.x∧∀j,isWord (s.m j)
end Go.Proofs.YtddemlfepjkgoaaGreat
namespace Go.Proofs.YtddemlfepjkgoaaGreat
open Go.RowKit
def rdF(a:Option Addr)(cap:Nat)(l:List Int)(j:Nat)(i:Nat):Value:=if i=0 then .slice a l.length cap else .int .i64 ((min j l.length:Nat):Int)
structure Rd(w:World)(R:Nat)(a:Option Addr)(cap:Nat)(l:List Int)(j:Nat):Prop where
 row:w.rowIs R 86 2 (rdF a cap l j)
 src:l=[]∨∃b o,a=some ⟨b,o,none⟩∧b<R∧BytesAt w b o l
 bys:isBytes l
 len:l.length<=600
 cp:l.length<=cap
theorem Rd.lt{w:World}{R cap j:Nat}{a:Option Addr}{l:List Int}(h:Rd w R a cap l j):R<w.heap.size:=World.rowIs.lt h.row
theorem Rd.keep{w w1:World}{R cap j:Nat}{a:Option Addr}{l:List Int}(h:Rd w R a cap l j)(e:∀k,k<=R->w1.heap[k]? =w.heap[k]?):Rd w1 R a cap l j:=by
 refine⟨World.rowIs.of_block h.row (e R (Nat.le_refl _)),?_,h.bys,h.len,h.cp⟩;rcases h.src with h1|⟨b,o,h1,h2,h3⟩
 ·exact .inl h1
 exact .inr ⟨b,o,h1,h2,fun i hi=>(World.cell?_of_block (w:=w) (e b (by omega))).trans (h3 i hi)⟩
theorem Rd.below{w w1:World}{R cap j:Nat}{a:Option Addr}{l:List Int}(h:Rd w R a cap l j)(hb:Below w.heap.size w w1):Rd w1 R a cap l j:=
 h.keep (fun k hk=>hb.block k (Nat.lt_of_le_of_lt hk h.lt))
theorem Rd.alloc{w:World}{R cap j:Nat}{a:Option Addr}{l:List Int}(h:Rd w R a cap l j)(o:Obj):Rd (w.alloc o) R a cap l j:=
 h.keep (fun k hk=>Below.heap_alloc w o k (Nat.lt_of_le_of_lt hk h.lt))
theorem Rd.drewN{w:World}{R cap j:Nat}{a:Option Addr}{l:List Int}(h:Rd w R a cap l j)(n:Nat):Rd (w.drewN n) R a cap l j:=
 h.keep (fun k hk=>rfl)
theorem Rd.grown{w w1:World}{R cap j B:Nat}{a:Option Addr}{l:List Int}{row:Option Nat}(h:Rd w R a cap l j)(hg:w.grownBy w1 row)(hR:R<B)(hr:∀k,row=some k->B<=k):Rd w1 R a cap l j:=
 h.keep (fun k hk=>hg.block k (Nat.lt_of_le_of_lt hk h.lt) (fun e=>by have:=hr k e.symm;omega))
theorem Rd.set{w:World}{R cap j:Nat}{a:Option Addr}{l:List Int}(h:Rd w R a cap l j)(v:Int)(j':Nat)(hv:v=((min j' l.length:Nat):Int)):Rd (w.setCell ⟨R,1,none⟩ (.int .i64 v)) R a cap l j':=by
 refine⟨(World.rowIs.set h.row 1 (.int .i64 v)).congr (fun i hi=> ?_),?_,h.bys,h.len,h.cp⟩
 ·unfold rdF;by_cases e:i=1
  ·subst e;simp[hv]
  have:i=0:=by omega
  subst this;simp
 rcases h.src with h1|⟨b,o,h1,h2,h3⟩
 ·exact .inl h1
 refine .inr ⟨b,o,h1,h2,fun i hi=>(World.cell?_of_block (w:=w) ?_).trans (h3 i hi)⟩;exact Below.heap_setCell w ⟨R,1,none⟩ _ b (by show b≠R;omega)
theorem Rd.past{w:World}{R cap j:Nat}{a:Option Addr}{l:List Int}(h:Rd w R a cap l j)(hj:l.length<=j):Rd w R a cap l (j+1):=by
 refine⟨h.row.congr (fun i hi=> ?_),h.src,h.bys,h.len,h.cp⟩;unfold rdF;rw[Nat.min_eq_right hj,Nat.min_eq_right (by omega)]
theorem rb_drewN{w w1:World}{r:Option Nat}(h:w.grownBy w1 r)(n:Nat):w.grownBy (w1.drewN n) r:=⟨h.os,h.tape,h.output,h.size,h.block⟩
theorem rb_alloc{w w1:World}{r:Option Nat}(h:w.grownBy w1 r)(o:Obj):w.grownBy (w1.alloc o) r:=
 ⟨h.os,h.tape,h.output,by have:=h.size;simp;omega,fun k hk hne=>(Below.heap_alloc w1 o k (by have:=h.size;omega)).trans (h.block k hk hne)⟩
theorem rb_set{w wr:World}{D:Nat}(h:w.grownBy wr (some D))(j:Nat)(v:Value):w.grownBy (wr.setCell ⟨D,j,none⟩ v) (some D):=
 ⟨h.os,h.tape,h.output,by have:=h.size;simpa[World.setCell]using this,fun k hk hne=>(Below.heap_setCell wr ⟨D,j,none⟩ v k (fun e=>hne (by rw[e]))).trans (h.block k hk hne)⟩
theorem rb_below{w w1:World}{r:Option Nat}(h:Below w.heap.size w w1):w.grownBy w1 r:=⟨h.os,h.tape,h.output,h.size,fun k hk _=>h.block k hk⟩
theorem rb_trans{w w1 w2:World}{r:Option Nat}(h:w.grownBy w1 r)(k:w1.grownBy w2 r):w.grownBy w2 r:=
 ⟨k.os.trans h.os,k.tape.trans h.tape,k.output.trans h.output,Nat.le_trans h.size k.size,fun i hi hne=>(k.block i (Nat.lt_of_lt_of_le hi h.size) hne).trans (h.block i hi hne)⟩
theorem rb_own{w wr w1:World}{R:Nat}{row:Option Nat}(h:w.grownBy wr (some R))(hg:wr.grownBy w1 row)(hr:∀k,row=some k->w.heap.size<=k):w.grownBy w1 (some R):=
 ⟨hg.os.trans h.os,hg.tape.trans h.tape,hg.output.trans h.output,Nat.le_trans h.size hg.size,fun k hk hne=>(hg.block k (Nat.lt_of_lt_of_le hk h.size) (fun e=>by have:=hr k e.symm;omega)).trans (h.block k hk hne)⟩
theorem next_in(R b o cap:Nat)(l:List Int)(j:Nat)(w:World)(hR:Rd w R (some ⟨b,o,none⟩) cap l j)(hs:BytesAt w b o l)(hj:j<l.length):
 Calls Tryz.prog 13 #[.pointer (some ⟨R,0,none⟩)] w fun e w'=>e=.returned (.int .i64 (l.getD j 0))∧Rd w' R (some ⟨b,o,none⟩) cap l (j+1)∧w.grownBy w' (some R):=by
 have HR:Hid (Rd w R (some ⟨b,o,none⟩) cap l j):=hR;have hc:=hs j hj;have hcp:=hR.cp;have hlen:=hR.len;have hb:=hR.bys;have e0:w.cell? ⟨R,0,none⟩=some (.slice (some ⟨b,o,none⟩) l.length cap):=World.rowIs.cell hR.row (by omega);have e1:w.cell? ⟨R,1,none⟩=some (.int .i64 (j:Int)):=by rw[World.rowIs.cell hR.row (by omega)];unfold rdF;rw[if_neg (by omega),Nat.min_eq_left (by omega)]
 have f1:w.frozen? ⟨R,1,none⟩=false:=World.rowIs.frozen hR.row 1;have hx:0<=l.getD j 0∧l.getD j 0<=255:=isBytes_getD hb j;obtain⟨x,ex⟩:∃x,l.getD j 0=x:=⟨_,rfl⟩;rw[ex]at hc hx⊢;obtain⟨n,en⟩:∃n,l.length=n:=⟨_,rfl⟩;have HN:Hid (l.length=n):=en;rw[en]at hj hcp hlen e0;clear ex en hs hR hb;have hjn:(j:Int)<(n:Int):=by omega
 go_enter Tryz.func13,Tryz.ntmps13;go_wp2_with fail;go_quiet(fail);go_wp2_with fail;go_quiet(fail);go_wp2;go_ret;refine⟨rfl,(HR.out.drewN _).set _ (j+1) (by rw[HN.out,Nat.min_eq_left (by omega)];simp),?_⟩;exact rb_set (rb_drewN (World.grownBy.refl _ _) _) _ _
theorem next_out(R cap:Nat)(a:Option Addr)(l:List Int)(j:Nat)(w:World)(hR:Rd w R a cap l j)(hj:l.length<=j):
 Calls Tryz.prog 13 #[.pointer (some ⟨R,0,none⟩)] w fun e w'=>e=.returned (.int .i64 (l.getD j 0))∧Rd w' R a cap l (j+1)∧w.grownBy w' (some R):=by
 have HR:Hid (Rd w R a cap l j):=hR;have e0:w.cell? ⟨R,0,none⟩=some (.slice a l.length cap):=World.rowIs.cell hR.row (by omega);have e1:w.cell? ⟨R,1,none⟩=some (.int .i64 (l.length:Int)):=by rw[World.rowIs.cell hR.row (by omega)];unfold rdF;rw[if_neg (by omega),Nat.min_eq_right (by omega)]
 have ex:l.getD j 0=0:=by rw[List.getD_eq_getElem?_getD,List.getElem?_eq_none hj];rfl
 have hlen:=hR.len;rw[ex];obtain⟨n,en⟩:∃n,l.length=n:=⟨_,rfl⟩;have HN:Hid (l.length=n):=en;rw[en]at hj hlen e0 e1;clear ex en hR;go_enter Tryz.func13,Tryz.ntmps13;go_wp2_with fail;go_quiet(fail);go_wp2;go_ret;exact⟨rfl,(HR.out.past (by rw[HN.out];exact hj)).drewN _,rb_drewN (World.grownBy.refl _ _) _⟩
theorem next_any(R cap:Nat)(a:Option Addr)(l:List Int)(j:Nat)(w:World)(hR:Rd w R a cap l j):
 Calls Tryz.prog 13 #[.pointer (some ⟨R,0,none⟩)] w fun e w'=>e=.returned (.int .i64 (l.getD j 0))∧Rd w' R a cap l (j+1)∧w.grownBy w' (some R):=by
 by_cases hj:j<l.length
 ·rcases hR.src with rfl|⟨b,o,rfl,h2,h3⟩
  ·simp at hj
  exact next_in R b o cap l j w hR h3 hj
 exact next_out R cap a l j w hR (by omega)
theorem nxH(R cap:Nat)(a:Option Addr)(l:List Int):Hid (∀t W,Rd W R a cap l t->Calls Tryz.prog 13 #[.pointer (some ⟨R,0,none⟩)] W fun e w'=>e=.returned (.int .i64 (l.getD t 0))∧Rd w' R a cap l (t+1)∧W.grownBy w' (some R)):=fun t W h=>next_any R cap a l t W h
theorem nx1(R cap:Nat)(a:Option Addr)(l:List Int)(t k:Nat)(h:k=t+1):Hid (∀W,Rd W R a cap l t->Calls Tryz.prog 13 #[.pointer (some ⟨R,0,none⟩)] W fun e w'=>e=.returned (.int .i64 (l.getD t 0))∧Rd w' R a cap l k∧W.grownBy w' (some R)):=h▸fun W h=>next_any R cap a l t W h
theorem isBytes_take{l:List Int}(h:isBytes l)(n:Nat):isBytes (l.take n):=fun x hx=>h x (List.mem_of_mem_take hx)
theorem rd_new(a:Option Addr)(cap:Nat)(l:List Int)(w:World)(hs:BSrc w a l)(hl:isBytes l)(n:Nat)(hn:(l.take 600).length=n)(hnl:n<=l.length)(hcap:n<=cap)(c:Array Value)
 (hc:c= #[.slice a (l.take 600).length cap,.int .i64 0]):Rd (w.alloc (.cells c 86)) w.heap.size a cap (l.take 600) 0:=by
 subst hc;refine⟨?_,?_,isBytes_take hl _,by rw[List.length_take];omega,by omega⟩
 ·refine World.rowIs_alloc w #[.slice a (l.take 600).length cap,.int .i64 0] _ _ (fun i hi=> ?_);have h2:i<2:=hi;have:i=0∨i=1:=by omega
  rcases this with rfl|rfl
  ·rfl
  unfold rdF;simp
 rcases hs with rfl|⟨b,o,rfl,h2,h3⟩
 ·exact .inl rfl
 refine .inr ⟨b,o,rfl,h2,fun i hi=> ?_⟩;rw[hn]at hi;rw[World.cell?_of_block (w:=w) (Below.heap_alloc w _ b h2),h3 i (by omega)];have e:(l.take 600).getD i 0=l.getD i 0:=by
  rw[List.getD_eq_getElem?_getD,List.getD_eq_getElem?_getD,List.getElem?_take,if_pos];rw[List.length_take]at hn;omega
 rw[e]
theorem open_any(a:Option Addr)(cap:Nat)(l:List Int)(w:World)(hs:BSrc w a l)(hl:isBytes l)(hcap:l.length<=cap)(hn:l.length<=1048576):
 Calls Tryz.prog 12 #[.slice a l.length cap] w fun e w'=>∃R cap',e=.returned (.pointer (some ⟨R,0,none⟩))∧w.heap.size<=R∧Rd w' R a cap' (l.take 600) 0∧Below w.heap.size w w':=by
 obtain⟨n,en⟩:∃n,l.length=n:=⟨_,rfl⟩;have HN:Hid (l.length=n):=en;rw[en]at hcap hn⊢;clear en;by_cases hbig:600<n
 ·have ht:(l.take 600).length=600:=by rw[List.length_take,HN.out];omega
  have HT:Hid ((l.take 600).length=600):=ht;clear ht;go_enter Tryz.func12,Tryz.ntmps12;go_wp2;go_ret;refine⟨w.heap.size,cap,rfl,Nat.le_refl _,?_,?_⟩
  ·exact rd_new a cap l w hs hl 600 HT.out (by rw[HN.out];omega) (by omega) _ (by rw[HT.out])
  exact(Below.refl _ _).alloc (Nat.le_refl _) _
 have ht:(l.take 600).length=n:=by rw[List.length_take,HN.out];omega
 have HT:Hid ((l.take 600).length=n):=ht;clear ht;go_enter Tryz.func12,Tryz.ntmps12;go_wp2;go_ret;refine⟨w.heap.size,cap,rfl,Nat.le_refl _,?_,?_⟩
 ·exact rd_new a cap l w hs hl n HT.out (by rw[HN.out];omega) (by omega) _ (by rw[HT.out])
 exact(Below.refl _ _).alloc (Nat.le_refl _) _
def wordV(l:List Int)(j:Nat):Int:=
 if l.getD j 0<100 then l.getD j 0%20 else if l.getD j 0<130 then 2^(l.getD j 0%32).toNat else if l.getD j 0<160 then 4294967295-l.getD j 0%5
 else if l.getD j 0<190 then 2147483647+l.getD j 0%3 else(l.getD j 0*16777619+l.getD (j+1) 0*65537+l.getD (j+2) 0)%4294967296
def wordJ(l:List Int)(j:Nat):Nat:=if l.getD j 0<190 then j+1 else j+3
theorem drawWord_any(R cap:Nat)(a:Option Addr)(l:List Int)(j:Nat)(w:World)(hR:Rd w R a cap l j):
 Calls Tryz.prog 80 #[.pointer (some ⟨R,0,none⟩)] w fun e w'=>e=.returned (.int .u32 (wordV l j))∧Rd w' R a cap l (wordJ l j)∧w.grownBy w' (some R):=by
 have hx:=isBytes_getD hR.bys j;have hy:=isBytes_getD hR.bys (j+1);have hz:=isBytes_getD hR.bys (j+2);have HN1:∀W,Rd W R a cap l j->Calls Tryz.prog 13 #[.pointer (some ⟨R,0,none⟩)] W fun e w'=>e=.returned (.int .i64 (l.getD j 0))∧Rd w' R a cap l (j+1)∧W.grownBy w' (some R):=fun W h=>next_any R cap a l j W h
 have HN2:∀W,Rd W R a cap l (j+1)->Calls Tryz.prog 13 #[.pointer (some ⟨R,0,none⟩)] W fun e w'=>e=.returned (.int .i64 (l.getD (j+1) 0))∧Rd w' R a cap l (j+2)∧W.grownBy w' (some R):=fun W h=>next_any R cap a l (j+1) W h
 have HN3:∀W,Rd W R a cap l (j+2)->Calls Tryz.prog 13 #[.pointer (some ⟨R,0,none⟩)] W fun e w'=>e=.returned (.int .i64 (l.getD (j+2) 0))∧Rd w' R a cap l (j+3)∧W.grownBy w' (some R):=fun W h=>next_any R cap a l (j+2) W h
 obtain⟨V,hV⟩:∃V,wordV l j=V:=⟨_,rfl⟩;obtain⟨J,hJ⟩:∃J,wordJ l j=J:=⟨_,rfl⟩;rw[hV,hJ];unfold wordV at hV;unfold wordJ at hJ;generalize l.getD j 0=x at*;generalize l.getD (j+1) 0=y at*;generalize l.getD (j+2) 0=z at*;have HV:Hid _:=hV;have HJ:Hid _:=hJ;clear hV hJ;go_enter Tryz.func80,Tryz.ntmps80;go_wp2_with fail;refine(HN1 _ hR).mono ?_;rintro _ w1⟨rfl,hR1,hg1⟩;by_cases c1:x<100
 ·have hV:V=x%20:=by rw[<-HV.out,if_pos c1]
  have hJ:J=j+1:=by rw[<-HJ.out,if_pos (by omega)]
  subst hV hJ;clear HV HJ HN2 HN3;go_wp2;go_ret;exact⟨rfl,hR1,hg1⟩
 by_cases c2:x<130
 ·have hV:V=2^(x%32).toNat:=by rw[<-HV.out,if_neg c1,if_pos c2]
  have hJ:J=j+1:=by rw[<-HJ.out,if_pos (by omega)]
  subst hV hJ;clear HV HJ HN2 HN3;go_wp2;go_ret;refine⟨ret_int ?_,hR1,hg1⟩;have hp:∀k:Nat,k<32->(2:Int)^k%4294967296=2^k:=by decide
  exact hp _ (by omega)
 by_cases c3:x<160
 ·have hV:V=4294967295-x%5:=by rw[<-HV.out,if_neg c1,if_neg c2,if_pos c3]
  have hJ:J=j+1:=by rw[<-HJ.out,if_pos (by omega)]
  subst hV hJ;clear HV HJ HN2 HN3;go_wp2;go_ret;exact⟨ret_int (by first|rfl|omega),hR1,hg1⟩
 by_cases c4:x<190
 ·have hV:V=2147483647+x%3:=by rw[<-HV.out,if_neg c1,if_neg c2,if_neg c3,if_pos c4]
  have hJ:J=j+1:=by rw[<-HJ.out,if_pos (by omega)]
  subst hV hJ;clear HV HJ HN2 HN3;go_wp2;go_ret;exact⟨ret_int (by first|rfl|omega),hR1,hg1⟩
 have hV:V=(x*16777619+y*65537+z)%4294967296:=by rw[<-HV.out,if_neg c1,if_neg c2,if_neg c3,if_neg c4]
 have hJ:J=j+3:=by rw[<-HJ.out,if_neg (by omega)]
 subst hV hJ;clear HV HJ;go_wp2_with fail;refine(HN2 _ hR1).mono ?_;rintro _ w2⟨rfl,hR2,hg2⟩;go_wp2_with fail;refine(HN3 _ hR2).mono ?_;rintro _ w3⟨rfl,hR3,hg3⟩;go_wp2;go_ret;refine⟨ret_int ?_,hR3,rb_trans hg1 (rb_trans hg2 hg3)⟩;omega
def Rdr(w:World)(R:Nat):Prop:=∃a cap l j,Rd w R a cap l j
def isU(x:Int):Prop:=0<=x∧x<=18446744073709551615
theorem isU_bits(op:BinOp)(a b:Int):isU (bits op .u64 a b):=⟨bits_lo_u64 op a b,bits_hi_u64 op a b⟩
theorem Rdr.lt{w:World}{R:Nat}(h:Rdr w R):R<w.heap.size:=by obtain⟨a,cap,l,j,h⟩:=h;exact h.lt
theorem Rdr.below{w w1:World}{R:Nat}(h:Rdr w R)(hb:Below w.heap.size w w1):Rdr w1 R:=by
 obtain⟨a,cap,l,j,h⟩:=h;exact⟨a,cap,l,j,h.below hb⟩
theorem Rdr.own{w w1:World}{R B:Nat}{row:Option Nat}(h:Rdr w R)(hg:w.grownBy w1 row)(hR:R<B)(hr:∀k,row=some k->B<=k):Rdr w1 R:=by
 obtain⟨a,cap,l,j,h⟩:=h;exact⟨a,cap,l,j,h.grown hg hR hr⟩
structure Dr(w:World)(R:Nat)(w':World):Prop where
 rd:Rdr w' R
 gr:w.grownBy w' (some R)
theorem Dr.refl{w:World}{R:Nat}(h:Rdr w R):Dr w R w:=⟨h,World.grownBy.refl _ _⟩
theorem Dr.trans{w w1 w2:World}{R:Nat}(h:Dr w R w1)(h':Dr w1 R w2):Dr w R w2:=⟨h'.rd,rb_trans h.gr h'.gr⟩
def DrU(w:World)(R:Nat)(e:Ending)(w':World):Prop:=∃x:Int,isU x∧e=.returned (.int .u64 x)∧Dr w R w'
theorem DrU.mk{w:World}{R:Nat}{x:Int}{w':World}(h:isU x)(hd:Dr w R w'):DrU w R (.returned (.int .u64 x)) w':=⟨x,h,rfl,hd⟩
theorem wordV_range(l:List Int)(hl:isBytes l)(j:Nat):0<=wordV l j∧wordV l j<=4294967295:=by
 have hx:=isBytes_getD hl j;unfold wordV;have hp:∀k:Nat,k<32->(1:Int)<=2^k∧(2:Int)^k<=4294967295:=by decide
 have:=hp (l.getD j 0%32).toNat (by omega);split
 ·omega
 split
 ·omega
 split
 ·omega
 split<;>omega
end Go.Proofs.YtddemlfepjkgoaaGreat
