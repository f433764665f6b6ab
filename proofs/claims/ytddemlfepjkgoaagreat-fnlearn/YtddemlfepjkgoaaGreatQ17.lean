import Derived.Test.YtddemlfepjkgoaaGreatQ16
set_option linter.all false
set_option maxRecDepth 200000
set_option maxHeartbeats 16000000
namespace Go.Proofs.YtddemlfepjkgoaaGreat
open Go.RowKit Go.Deep
def RulesP(l:List La)(ex sp f:Int)(w:World)(e:Ending)(w':World):Prop:=∃rs,IsRules l ex sp f rs∧RulP rs w e w'
theorem diff_nn{l:List La}(h:∀a∈l,okLa a){j:Nat}{d:List Int}(hd:Diff l j d):(∀v∈d,0<=v)∧d.length<=l.length:=by
 refine⟨fun v hv=> ?_,?_⟩
 ·obtain⟨a,ha,rfl⟩:=diff_mem hd hv;exact((h a ha).lt j).2
 have:=nodup_len (ascG_nodup linI hd.1) (fun c hc=>(hd.2 c).1 hc);rw[List.length_map]at this;exact this
theorem okLs{t:List C}(hc:∀c∈t,okLa c.args):∀a∈t.map C.args,okLa a:=fun a ha=>by
 obtain⟨c,h1,rfl⟩:=List.mem_map.1 ha;exact hc c h1
theorem l4diff_src(t:List C)(a:Option Addr)(cap j:Nat)(w:World)(hs:CSrc w a t)(hc:∀c∈t,okLa c.args)(hj:j<6)(hn:t.length<=1000):
 Calls Tryz.prog 84 #[.slice a t.length cap,.int .i64 (j:Int)] w fun e w'=>∃a5 c5 d,e=.returned (.slice a5 d.length c5)∧Diff (t.map C.args) j d∧USrc w' a5 d∧d.length<=1000∧Below w.heap.size w w':=by
 refine(l4different_any t a cap j w hs hc hj hn).mono ?_;rintro e w'⟨v,d,rfl,hd,ho,hb⟩;obtain⟨a5,c5,rfl,hu⟩:=ownsU_src ho;have:=(diff_nn (okLs hc) hd).2;rw[List.length_map]at this;exact⟨a5,c5,d,rfl,hd,hu,by omega,hb⟩
theorem l4val_src(t:List C)(a:Option Addr)(cap q:Nat)(x v:Int)(w:World)(hs:CSrc w a t)(hc:∀c∈t,okLa c.args)(hq:q<6)(hx0: -1<=x)(hx1:x<6)(hn:t.length<=1000):
 Calls Tryz.prog 86 #[.slice a t.length cap,.int .i64 (q:Int),.int .i64 x,.int .u64 v] w fun e w'=>∃a5 c5,e=.returned (.slice a5 (colN (partL (t.map C.args) x v) q).length c5)∧USrc w' a5 (natV (colN (partL (t.map C.args) x v) q))∧Below w.heap.size w w':=by
 refine(l4values_any t a cap q x v w hs hc hq hx0 hx1 hn).mono ?_;rintro e w'⟨v',rfl,ho,hb⟩;obtain⟨a5,c5,rfl,hu⟩:=ownsU_src ho;rw[pick_part,<-natV_col (part_ok (okLs hc) x v) q]at hu;refine⟨a5,c5,?_,hu,hb⟩;rw[pick_part,<-natV_col (part_ok (okLs hc) x v) q,List.length_map]
theorem part_len(l:List La)(x v:Int):(partL l x v).length<=l.length:=by
 unfold partL;split
 ·exact Nat.le_refl _
 exact List.length_filter_le _ _
theorem l4rules_many(t:List C)(a:Option Addr)(cap:Nat)(ex sp f:Int)(w:World)(hs:CSrc w a t)(hc:∀c∈t,okLa c.args)(hn:t.length<=1000)(hex:¬(t.length:Int)<=ex)(hf:0<=f∧f<=2):
 Calls Tryz.prog 44 #[.slice a t.length cap,.agg #[.int .i64 ex,.int .i64 sp,.int .i64 f]] w (RulesP (t.map C.args) ex sp f w):=by
 obtain⟨i0,hi,hz0,hz1,hz2⟩:=info_parts infoConM;obtain⟨i1,hi1,hy0,hy1,hy2⟩:=info_parts infoRuleM;have hok:=okLs hc;have HP:Hid (∀v w1,Calls Tryz.prog 83 #[.int .u64 v] w1 fun e w'=>e=.returned (.agg #[.int .i64 1,.int .u64 18446744073709551615,.int .u64 v])∧Below w1.heap.size w1 w'):=l3point_any;have HD:Hid (∀(j:Nat)wr,j<6->Below w.heap.size w wr->Calls Tryz.prog 84 #[.slice a t.length cap,.int .i64 (j:Int)] wr fun e w'=>∃a5 c5 d,e=.returned (.slice a5 d.length c5)∧Diff (t.map C.args) j d∧USrc w' a5 d∧d.length<=1000∧Below wr.heap.size wr w'):=fun j wr hj hb=>l4diff_src t a cap j wr (hs.below hb) hc hj hn
 have HV:Hid (∀(q:Nat)(x v:Int)wr,q<6->-1<=x->x<6->Below w.heap.size w wr->Calls Tryz.prog 86 #[.slice a t.length cap,.int .i64 (q:Int),.int .i64 x,.int .u64 v] wr fun e w'=>∃a5 c5,e=.returned (.slice a5 (colN (partL (t.map C.args) x v) q).length c5)∧USrc w' a5 (natV (colN (partL (t.map C.args) x v) q))∧Below wr.heap.size wr w'):=fun q x v wr hq h0 h1 hb=>l4val_src t a cap q x v wr (hs.below hb) hc hq h0 h1 hn
 have HCo:Hid (∀(q:Nat)(x v:Int)w1 a1 c1,USrc w1 a1 (natV (colN (partL (t.map C.args) x v) q))->Calls Tryz.prog 85 #[.slice a1 (colN (partL (t.map C.args) x v) q).length c1,.int .i64 f] w1 fun e w'=>e=.returned (conV (coverK (colN (partL (t.map C.args) x v) q) f))∧Below w1.heap.size w1 w'):=fun q x v w1 a1 c1 h=>specCover_any f a1 c1 _ w1 h (by rw[colN_len];have:=part_len (t.map C.args) x v;rw[List.length_map]at this;omega) (colN_all (part_ok hok x v) q)
 have HA0:Hid (AtI (t.map C.args) sp 6 (-1)):=AtI.start _ _;have HAy:Hid (∀(q:Nat)d,q<6->Diff (t.map C.args) q d->2<=d.length->(d.length:Int)<=sp->AtI (t.map C.args) sp q q):=fun q d hq hd h2 h3=>AtI.yes (x:=0) hq ((maySplit_iff hd).2 ⟨h2,h3⟩)
 have HAn:Hid (∀(q:Nat)d x,Diff (t.map C.args) q d->¬(2<=d.length∧(d.length:Int)<=sp)->AtI (t.map C.args) sp (q+1) x->AtI (t.map C.args) sp q x):=fun q d x hd h2 h=>h.no (fun hm=>h2 ((maySplit_iff hd).1 hm))
 have HAr:Hid (∀q x,AtI (t.map C.args) sp q x->-1<=x∧x<6):=fun q x h=>h.range
 have HR1:Hid (AtI (t.map C.args) sp 0 (-1)->IsRules (t.map C.args) ex sp f [ruleX (t.map C.args) f (-1) 0]):=fun h=>rules_one hok hf (by rw[List.length_map];exact hex) h
 have HR2:Hid (∀(j:Nat)d,AtI (t.map C.args) sp 0 (j:Int)->Diff (t.map C.args) j d->IsRules (t.map C.args) ex sp f (d.map fun v=>ruleX (t.map C.args) f (j:Int) v)):=fun j d h hd=>rules_split hok hf (by rw[List.length_map];exact hex) h hd
 have HNd:Hid (∀(j:Nat)d,Diff (t.map C.args) j d->∀v∈d,0<=v):=fun j d hd=>(diff_nn hok hd).1
 generalize t.map C.args=l at*;clear hs hc hok;generalize t.length=n at*;have b0:Below w.heap.size w (w.alloc (.cells #[.int .i64 ex,.int .i64 sp,.int .i64 f] 25)):=(Below.refl _ _).alloc (Nat.le_refl _) _;have X0:=Box3.new w 25 (.int .i64 ex) (.int .i64 sp) (.int .i64 f);have hk0:=X0.c0;have hk1:=X0.c1;go_enter Tryz.func44,Tryz.ntmps44;go_wp2_with fail;generalize w.alloc (.cells #[.int .i64 ex,.int .i64 sp,.int .i64 f] 25)=W0 at*;clear hk0 hk1;go_loopw [9,10](fun at' i wr=>∃(q:Nat)(x:Int),q<=6∧i=.int .i64 ((q:Int)-1)∧at'=.int .i64 x∧Hid (AtI l sp q x)∧Below W0.heap.size W0 wr)(fun _ i _=>(intOf i+1).toNat)
 case atStart=>exact⟨6,-1,by omega,by go_num,rfl,HA0,Below.refl _ _⟩
 case round=>
  obtain⟨q,x,hq,rfl,rfl,HA,B1⟩:=hrel;rename World=>W1
  clear HA0;have X1:=X0.keep B1;by_cases hq0:0<q
  ·obtain⟨j,rfl⟩:∃j,q=j+1:=⟨q-1,by omega⟩;have hj1:((j+1:Nat):Int)-1=(j:Int):=by omega
   rw[hj1];have hj0:(0:Int)<=(j:Int):=by omega
   have hbD:=b0.trans (B1.mono b0.size);clear HV HCo HR1 HR2 HNd HP;go_wp2_with fail;refine(HD.out j W1 (by omega) hbD).mono ?_;rintro _ w2⟨a5,c5,d,rfl,hd,_,hdl,hb2⟩;have B2:=B1.trans (hb2.mono B1.size);obtain⟨_,k0,k1,k2,_,_,_⟩:=X1.keep hb2;have HAy':=HAy.out j d (by omega) hd;have HAn':=HAn.out j d x hd;clear HAy HAn hd hb2 HD B1 X1;by_cases h2:2<=d.length
   ·have h2':(2:Int)<=(d.length:Int):=by omega
    by_cases h3:(d.length:Int)<=sp
    ·have HA2:Hid _:=HAy' h2 h3;clear HAy' HAn' HA;go_wp2;go_roundw
     case rel=>exact⟨j,j,by omega,by go_num,by go_num,HA2,B2⟩
     case measure=>simp[intOf]
    have HA2:Hid _:=HAn' (fun h=>h3 h.2) HA.out;clear HAy' HAn' HA;go_wp2;go_roundw
    case rel=>exact⟨j,x,by omega,by go_num,rfl,HA2,B2⟩
    case measure=>simp[intOf]
   have h2':¬(2:Int)<=(d.length:Int):=by omega
   have HA2:Hid _:=HAn' (fun h=>h2 h.1) HA.out;clear HAy' HAn' HA;go_wp2;go_roundw
   case rel=>exact⟨j,x,by omega,by go_num,rfl,HA2,B2⟩
   case measure=>simp[intOf]
  have hq':q=0:=by omega
  subst hq';clear HAy HAn;obtain⟨hx0,hx1⟩:=HAr.out _ _ HA.out;have bW:=b0.trans (B1.mono b0.size);have hm1:((0:Nat):Int)-1= -1:=by omega
  rw[hm1];have U1:USrc (W1.alloc (.cells #[.int .u64 0] 69)) (some ⟨W1.heap.size,0,none⟩) [0]:=.inr ⟨W1.heap.size,0,rfl,by simp,fun i hi=>by
   have:i=0:=by simpa using hi
   subst this;simp⟩
  have BA:Below W1.heap.size W1 (W1.alloc (.cells #[.int .u64 0] 69)):=(Below.refl _ _).alloc (Nat.le_refl _) _;by_cases hx:x<0
  case' pos=>
   obtain rfl:x= -1:=by omega
   have HIs:Hid (IsRules l ex sp f ([(0:Int)].map fun v=>ruleX l f (-1) v)):=HR1.out HA.out;have HNv:Hid (∀v∈[(0:Int)],0<=v):=fun v hv=>by simp at hv;omega
   have hdl:[(0:Int)].length<=1000:=by decide
   have B3:=B1.trans (BA.mono B1.size);have HVS:∃avs m cvs,Value.slice (some ⟨W1.heap.size,0,none⟩) 1 1=.slice avs m cvs∧[(0:Int)].length=m∧USrc (W1.alloc (.cells #[.int .u64 0] 69)) avs [0]:=⟨_,_,_,rfl,rfl,U1⟩;clear HR1 HR2 HNd HD HA U1 BA hx X1;go_upto_region 23 with fail
   generalize Value.slice (some ⟨W1.heap.size,0,none⟩) 1 1=vs at*;generalize [(0:Int)]=ds at*;generalize W1.alloc (.cells #[.int .u64 0] 69)=W3 at*;clear B1 bW;clear hx0 hx1 hm1;generalize hxx:(-1:Int)=x at HIs⊢;have hx0: -1<=x:=by omega
   have hx1:x<6:=by omega
   clear hxx
  case' neg=>
   obtain⟨j,rfl⟩:∃j:Nat,x=j:=⟨x.toNat,by omega⟩;have hj0:(0:Int)<=(j:Int):=by omega
   have hbD:=bW.trans (BA.mono bW.size);clear HR1 U1 X1;go_wp2_with fail;refine(HD.out j _ (by omega) hbD).mono ?_;rintro _ w2⟨a5,c5,ds,rfl,hd,hu,hdl,hb2⟩;have HIs:Hid (IsRules l ex sp f (ds.map fun v=>ruleX l f (j:Int) v)):=HR2.out j ds HA.out hd;have HNv:Hid (∀v∈ds,0<=v):=HNd.out j ds hd;have B3:=(B1.trans (BA.mono B1.size)).trans (hb2.mono (B1.trans (BA.mono B1.size)).size);have HVS:∃avs m cvs,Value.slice a5 ds.length c5=.slice avs m cvs∧ds.length=m∧USrc w2 avs ds:=⟨_,_,_,rfl,rfl,hu⟩;clear HR2 HNd HD HA hd hu hb2 hbD;go_upto_region 23 with fail
   generalize Value.slice a5 ds.length c5=vs at*;generalize w2=W3 at*;clear B1 bW BA hx hj0 hm1;generalize(j:Int)=x at hx0 hx1 HIs⊢
  all_goals
   obtain⟨avs,m,cvs,rfl,hm,hus⟩:=HVS;have HU:Hid (∀wr,Below W3.heap.size W3 wr->∀i,i<m->∃b o,avs=some ⟨b,o,none⟩∧wr.cell? ⟨b,o+i,none⟩=some (.int .u64 (ds.getD i 0))):=fun wr hb i hi=>by
    obtain⟨b,o,h1,h2⟩:=usrc_at (hus.below hb) (by omega);exact⟨b,o,h1,h2 i (by omega)⟩
   have bW3:=b0.trans (B3.mono b0.size);have HX:Hid (∀wr,Below W3.heap.size W3 wr->wr.cell? ⟨w.heap.size,2,none⟩=some (.int .i64 f)):=fun wr hb=>(X0.keep (B3.trans (hb.mono B3.size))).c2
   have HT:Hid (∀k,k<m->(ds.take (k+1)).map (fun v=>ruleX l f x v)=(ds.take k).map (fun v=>ruleX l f x v)++[ruleX l f x (ds.getD k 0)]):=fun k hk=>by
    rw[List.take_add_one,List.map_append,List.getElem?_eq_getElem (by omega),List.getD_eq_getElem?_getD,List.getElem?_eq_getElem (by omega)];rfl
   have HTe:Hid ((ds.take m).map (fun v=>ruleX l f x v)=ds.map fun v=>ruleX l f x v):=by
    show _=_;rw[<-hm,List.take_length]
   have HNk:Hid (∀k,k<m->0<=ds.getD k 0):=fun k hk=>HNv.out _ (getD_memI (by omega))
   have H00:(ds.take 0).map (fun v=>ruleX l f x v)=[]:=rfl;have HVV:Hid (∀(q:Nat)(v:Int)wr,q<6->Below w.heap.size w wr->Calls Tryz.prog 86 #[.slice a n cap,.int .i64 (q:Int),.int .i64 x,.int .u64 v] wr fun e w'=>∃a5 c5,e=.returned (.slice a5 (colN (partL l x v) q).length c5)∧USrc w' a5 (natV (colN (partL l x v) q))∧Below wr.heap.size wr w'):=fun q v wr hq hb=>HV.out q x v wr hq hx0 hx1 hb
   have HCC:Hid (∀(q:Nat)(v:Int)w1 a1 c1,USrc w1 a1 (natV (colN (partL l x v) q))->Calls Tryz.prog 85 #[.slice a1 (colN (partL l x v) q).length c1,.int .i64 f] w1 fun e w'=>e=.returned (conV (coverK (colN (partL l x v) q) f))∧Below w1.heap.size w1 w'):=fun q v=>HCo.out q x v
   have HKK:Hid (∀(v:Int)(q:Nat),q<6->0<=v->kcs ((ruleX l f x v).take (q+1))=kcs ((ruleX l f x v).take q)++(if(q:Int)=x then [.int .i64 1,.int .u64 18446744073709551615,.int .u64 v]else [.int .i64 (coverK (colN (partL l x v) q) f).kind,.int .u64 ((coverK (colN (partL l x v) q) f).a:Int),.int .u64 ((coverK (colN (partL l x v) q) f).b:Int)])):=fun v q hq hv=>by
    rw[ruleX_take l f x v hq,kcs_snoc];split
    ·simp only[pointK];rw[Int.toNat_of_nonneg hv];rfl
    rfl
   have HK6:Hid (∀v,(ruleX l f x v).take 6=ruleX l f x v∧(ruleX l f x v).length=6):=fun v=>⟨List.take_of_length_le (by rw[ruleX_len];omega),ruleX_len _ _ _ _⟩
   have HFin:Hid (∀v os w',OwnM w.heap.size w' w.heap.size v os->os.map Prod.fst=ds.map (fun v=>ruleX l f x v)->Below w.heap.size w w'->RulesP l ex sp f w (.returned v) w'):=fun v os w' h1 h2 h3=>⟨_,HIs.out,v,os,rfl,h1,h2,h3⟩
   have hml:m<=1000:=by omega
   clear HV HCo HNv HIs hus hm hdl B3 X0;obtain⟨RX,hRX⟩:∃RX:Int->Ru,∀v,ruleX l f x v=RX v:=⟨_,fun _=>rfl⟩;simp only[hRX]at HT HTe H00 HKK HK6 HFin;clear hRX;go_wp2_with fail;go_loopw [5,13](fun s' i wr=>∃(k:Nat)(s:Value)(os:List (Ru×Value)),s=s'∧k<=m∧i=.int .i64 k∧OwnM w.heap.size wr W3.heap.size s os∧Hid (os.map Prod.fst=(ds.take k).map fun v=>RX v)∧os.length=k∧Below W3.heap.size W3 wr)(fun _ i _=>m-(intOf i).toNat)
   case atStart=>exact⟨0,_,[],rfl,by omega,rfl,OwnM.nil _ _,H00.symm,rfl,Below.refl _ _⟩
   case round=>
    clear H00;obtain⟨k,s,os,hss,hk,rfl,O,HM,hol,B⟩:=hrel;subst hss;rename World=>W4
    by_cases hkn:k<m
    ·have hkn':(k:Int)<(m:Int):=by omega
     have HS:Hid _:=HT.out k hkn;have hy:=HNk.out k hkn;have U0:=BR.new 94 3 W4 116;have bW4:=bW3.trans (B.mono bW3.size);have hB:=bW4.size;have HUk:Hid (∀wr,Below W4.heap.size W4 wr->∃b o,avs=some ⟨b,o,none⟩∧wr.cell? ⟨b,o+k,none⟩=some (.int .u64 (ds.getD k 0))):=fun wr hb=>HU.out wr (B.trans (hb.mono B.size)) k hkn
     have HXk:Hid (∀wr,Below W4.heap.size W4 wr->wr.cell? ⟨w.heap.size,2,none⟩=some (.int .i64 f)):=fun wr hb=>HX.out wr (B.trans (hb.mono B.size))
     have HMn:Hid ((ds.take k).map (fun v=>RX v)++[RX (ds.getD k 0)]=(ds.take (k+1)).map fun v=>RX v):=HS.out.symm;clear HS HT HTe HNk HU HX HFin;generalize ds.getD k 0=y at*;go_wp2_with fail;generalize W4.alloc (.cells #[.slice none 0 0] 116)=WU at*;go_loopw [15](fun i wr=>∃(q:Nat)(v:Value),q<=6∧i=.int .i64 q∧BR 94 3 W4 wr v q (kcs ((RX y).take q)))(fun i _=>6-(intOf i).toNat)
     case atStart=>exact⟨0,_,by omega,rfl,U0⟩
     case round=>
      clear U0;obtain⟨q,v,hq,rfl,hT⟩:=hrel;rename World=>W5
      by_cases hq6:q<6
      ·have hq6':(q:Int)<6:=by omega
       obtain⟨av,cv,rfl⟩:=own_form hT.own;obtain⟨b,o,rfl,cy⟩:=HUk.out W5 hT.b;have cf:=HXk.out W5 hT.b;have hbm:q+1<=maxLen:=by unfold maxLen;omega
       have hbd:(q+1)*24<=140737488355328:=by omega
       have HK:=HKK.out y q hq6 hy;have cyd:W5.drew.cell? ⟨b,o+k,none⟩=some (.int .u64 y):=cy;have cfd:W5.drew.cell? ⟨w.heap.size,2,none⟩=some (.int .i64 f):=cf;have hcd:W5.drew.cell? ⟨W4.heap.size,0,none⟩=some (.slice av q cv):=hT.c;have hTd:=hT.keep (Below.refl _ _).drew;by_cases hqx:(q:Int)=x
       ·rw[if_pos hqx]at HK;have HKh:Hid _:=HK;have hqb:((q:Int)==x)=true:=by simpa using hqx
        clear HK HVV HCC HKK HUk HXk cy cf;go_wp2_with fail;go_region_law(first
         |(go_simp;go_at_call 83;refine(HP.out _ _).mono ?_;rintro _ w5⟨rfl,hb5⟩;have hT5:=hTd.keep hb5;have hc5:=hT5.c;have hc6:=(hT5.keep ((Below.refl _ _).alloc (Nat.le_refl _) (.cells #[.int .i64 1,.int .u64 18446744073709551615,.int .u64 y] 94))).c;have hv5:=cell_ltM hc5;have hbs:W4.heap.size+1<=(w5.alloc (.cells #[.int .i64 1,.int .u64 18446744073709551615,.int .u64 y] 94)).heap.size:=(by simp only at hv5;simp;omega);go_simp)
         |(refine step_append_lies _ (by rfl) _ _ _ (by rfl) (W4.heap.size+1) 94 i0 _ 3 24 Tryz.underlying114 hi hz0 hz1 hz2 rfl (by omega) (.slice av q cv) q (kcs ((RX y).take q)) (by rfl) (hT5.own.alloc _) ⟨w5.heap.size,0,none⟩ 1 1 [.int .i64 1,.int .u64 18446744073709551615,.int .u64 y] (by rfl) (by rfl) (World.news_of_block (t:=94) (fr:=(0,0)) (heap_alloc_new w5 _)) (by simp[Value.oneCell']) (by omega) hbm hbd hbs _ rfl ?_;intro gg cap2 w6 hown1 hgrow hat hlt2;obtain⟨x1,x2,x3⟩:=(hT5.keep ((Below.refl _ _).alloc (Nat.le_refl _) _)).next hown1 hgrow))
        all_goals
         rw[<-HKh.out]at x3;have HX3:Hid _:=x3;clear x1 x2 x3 hown1 hgrow hat hlt2 hT5 hc5 hc6 hTd HKh;go_wp2;go_roundw
         case rel=>exact⟨q+1,_,by omega,by go_num,HX3.out⟩
         case measure=>simp[intOf];omega
       rw[if_neg hqx]at HK;have hqb:((q:Int)==x)=false:=by simpa using hqx
       have HVq:Hid (∀wr,Below w.heap.size w wr->Calls Tryz.prog 86 #[.slice a n cap,.int .i64 (q:Int),.int .i64 x,.int .u64 y] wr fun e w'=>∃a5 c5,e=.returned (.slice a5 (colN (partL l x y) q).length c5)∧USrc w' a5 (natV (colN (partL l x y) q))∧Below wr.heap.size wr w'):=fun wr hb=>HVV.out q y wr hq6 hb
       have HCq:Hid (∀w1 a1 c1,USrc w1 a1 (natV (colN (partL l x y) q))->Calls Tryz.prog 85 #[.slice a1 (colN (partL l x y) q).length c1,.int .i64 f] w1 fun e w'=>e=.returned (.agg #[.int .i64 (coverK (colN (partL l x y) q) f).kind,.int .u64 ((coverK (colN (partL l x y) q) f).a:Int),.int .u64 ((coverK (colN (partL l x y) q) f).b:Int)])∧Below w1.heap.size w1 w'):=HCC.out q y;have hbV:Below w.heap.size w W5.drew:=(bW4.trans (hT.b.mono hB)).drew;have HXd:Hid (∀wr,Below W5.drew.heap.size W5.drew wr->wr.cell? ⟨w.heap.size,2,none⟩=some (.int .i64 f)):=fun wr hb=>cell_step hb cfd
       clear HVV HCC HKK HUk HXk cy cf HP;generalize coverK (colN (partL l x y) q) f=cc at*;obtain⟨ck,ca,cb⟩:=cc;simp only at HK HCq;generalize natV (colN (partL l x y) q)=PL at*;generalize(colN (partL l x y) q).length=pn at*;have HKh:Hid _:=HK;clear HK;go_wp2_with fail;go_region_law(first
        |(go_simp;go_at_call 86;refine(HVq.out _ hbV).mono ?_;rintro _ w4⟨a5,c5,rfl,hu4,hb4⟩;have hT4:=hTd.keep hb4;have hc4:=hT4.c;have cf4:=HXd.out _ hb4;go_simp)
        |(go_simp;go_at_call 85;refine(HCq.out _ _ _ hu4).mono ?_;rintro _ w5⟨rfl,hb5⟩;have hT5:=hT4.keep hb5;have hc5:=hT5.c;have hc6:=(hT5.keep ((Below.refl _ _).alloc (Nat.le_refl _) (.cells #[.int .i64 ck,.int .u64 (ca:Int),.int .u64 (cb:Int)] 94))).c;have hv5:=cell_ltM hc5;have hbs:W4.heap.size+1<=(w5.alloc (.cells #[.int .i64 ck,.int .u64 (ca:Int),.int .u64 (cb:Int)] 94)).heap.size:=(by simp only at hv5;simp;omega);go_simp)
        |(refine step_append_lies _ (by rfl) _ _ _ (by rfl) (W4.heap.size+1) 94 i0 _ 3 24 Tryz.underlying114 hi hz0 hz1 hz2 rfl (by omega) (.slice av q cv) q (kcs ((RX y).take q)) (by rfl) (hT5.own.alloc _) ⟨w5.heap.size,0,none⟩ 1 1 [.int .i64 ck,.int .u64 (ca:Int),.int .u64 (cb:Int)] (by rfl) (by rfl) (World.news_of_block (t:=94) (fr:=(0,0)) (heap_alloc_new w5 _)) (by simp[Value.oneCell']) (by omega) hbm hbd hbs _ rfl ?_;intro gg cap2 w6 hown1 hgrow hat hlt2;obtain⟨x1,x2,x3⟩:=(hT5.keep ((Below.refl _ _).alloc (Nat.le_refl _) _)).next hown1 hgrow))
       all_goals
        rw[<-HKh.out]at x3;have HX3:Hid _:=x3;clear x1 x2 x3 hown1 hgrow hat hlt2 hT5 hc5 hc6 hTd HKh;go_wp2;go_roundw
        case rel=>exact⟨q+1,_,by omega,by go_num,HX3.out⟩
        case measure=>simp[intOf];omega
      have hq':q=6:=by omega
      subst hq';obtain⟨g,cg,rfl⟩:=own_pos hT.own (by omega);have hge:=hT.own.lt g rfl;have hc1:=hT.c;obtain⟨h6a,h6b⟩:=HK6.out y;have hL:LAt 3 PK W5 g 0 (RX y):=own_lat (by have h:=hT.own;rw[h6a]at h;exact h) h6b;have O2:=O.below hT.b;have B2:=B.trans (hT.b.mono B.size);have bW5:=bW4.trans (hT.b.mono hB);have hgood:goodN w.heap.size W5 s (RX y,.slice (some ⟨g,0,none⟩) 6 cg):=⟨g,0,cg,rfl,h6b,fun e=>by have:=(O.row.lt g e).2;omega,hge.2,hL,by omega⟩;have hbm:os.length+1<=maxLen:=by unfold maxLen;omega
      have hbd:(os.length+1)*24<=140737488355328:=by omega
      have hbs:W3.heap.size<=(W5.alloc (.cells #[.slice (some ⟨g,0,none⟩) 6 cg] 116)).heap.size:=by have:=B2.size;simp;omega
      clear HUk HXk HP hT hL O HVV HCC HKK HK6;go_wp2_with(at_builtin;refine wpList_append_lies _ rfl (.tmp 112) (.tmp 114) 73 rfl W3.heap.size 116 i1 _ 1 24 Tryz.underlying73 hi1 hy0 hy1 hy2 rfl (by decide) s os.length (os.map Prod.snd) rfl (O2.row.alloc _) ⟨W5.heap.size,0,none⟩ 1 1 [.slice (some ⟨g,0,none⟩) 6 cg] rfl rfl (cell_one_new _ _ _) (by intro u hu;simp at hu;subst hu;rfl) (by omega) hbm hbd hbs _ rfl ?_);intro g9 cp9 w9 ow gr hat _;have O9:=O2.next hgood (by omega) ow gr (by simpa using hat);have B9:Below W3.heap.size W3 w9:=(B2.alloc B2.size _).grown gr hbs (fun t ht=>(O2.row.lt t ht).1);have HM9:Hid ((os++[(RX y,Value.slice (some ⟨g,0,none⟩) 6 cg)]).map Prod.fst=(ds.take (k+1)).map fun v=>RX v):=by
       show _=_;rw[<-HMn.out,List.map_append,HM.out];rfl
      clear ow gr hat O2 hgood B2 hc1 HM HMn;go_wp2;go_roundw
      case rel=>exact⟨k+1,_,_,rfl,by omega,by go_num,O9,HM9,by simp;omega,B9⟩
      case measure=>simp[intOf];omega
    have hk':k=m:=by omega
    subst hk';have HP9:Hid _:=HFin.out s os W4 ⟨World.ownsRow.mono O.row bW3.size,O.el⟩ (HM.out.trans HTe.out) (bW3.trans (B.mono bW3.size));clear HT HTe HNk HU HX HFin HVV HCC HKK HK6 HP O HM;go_wp2;go_ret;exact HP9.out
end Go.Proofs.YtddemlfepjkgoaaGreat
