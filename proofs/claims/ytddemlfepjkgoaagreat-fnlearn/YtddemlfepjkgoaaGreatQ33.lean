import Derived.Test.YtddemlfepjkgoaaGreatQ32
set_option linter.all false
set_option maxRecDepth 200000
set_option maxHeartbeats 16000000
namespace Go.Proofs.YtddemlfepjkgoaaGreat
open Go.RowKit
open srtR
theorem encR_norm(r:Ru):(encR (normR r)).toArray= #[.iface (tyK (normK (r.getD 0 K.zero))) (plK (normK (r.getD 0 K.zero))),.iface (tyK (normK (r.getD 1 K.zero))) (plK (normK (r.getD 1 K.zero))),.iface (tyK (normK (r.getD 2 K.zero))) (plK (normK (r.getD 2 K.zero))),.iface (tyK (normK (r.getD 3 K.zero))) (plK (normK (r.getD 3 K.zero))),.iface (tyK (normK (r.getD 4 K.zero))) (plK (normK (r.getD 4 K.zero))),.iface (tyK (normK (r.getD 5 K.zero))) (plK (normK (r.getD 5 K.zero)))]:=by
 simp only[encR,setV_form];rw[normR_getD r (by decide),normR_getD r (by decide),normR_getD r (by decide),normR_getD r (by decide),normR_getD r (by decide),normR_getD r (by decide)]
theorem six_alloc(w:World):(w.alloc (.cells #[.nilIface,.nilIface,.nilIface,.nilIface,.nilIface,.nilIface] 130)).rowIs w.heap.size 130 6 (fun _=>.nilIface):=World.rowIs_alloc w #[.nilIface,.nilIface,.nilIface,.nilIface,.nilIface,.nilIface] 130 (fun _=>.nilIface) (fun i hi=>by
 have:i=0∨i=1∨i=2∨i=3∨i=4∨i=5:=by simp at hi;omega
 rcases this with rfl|rfl|rfl|rfl|rfl|rfl<;>rfl)
theorem row_below{w w1:World}{D t n:Nat}{f:Nat->Value}(h:w.rowIs D t n f)(hb:Below w.heap.size w w1):w1.rowIs D t n f:=h.of_block (hb.block D h.lt)
theorem innerRuleOf_any(r:Ru)(a:Option Addr)(cap:Nat)(w:World)(hs:LSrc 3 PK w a r)(hv:VR r):
 Calls Tryz.prog 72 #[.agg #[.slice a 6 cap]] w fun e w'=>e=.returned (.agg (encR (normR r)).toArray)∧Below w.heap.size w w':=by
 have HP:Hid (∀wr,Below w.heap.size w wr->∀i,i<6->∃b o,a=some ⟨b,o,none⟩∧b<wr.heap.size∧PK wr b (o+i*3) (r.getD i K.zero)):=fun wr hB i hi=>(hs.below PK.stays hB).at (by rw[hv.1];exact hi) K.zero
 have HC:Hid (∀i w,Calls Tryz.prog 102 #[conV (r.getD i K.zero)] w fun e w'=>e=.returned (.iface (tyK (normK (r.getD i K.zero))) (plK (normK (r.getD i K.zero))))∧Below w.heap.size w w'):=fun i w=>by
  have:=conditionOf_any (r.getD i K.zero) w (hv.2 i).1;rw[setV_form]at this;exact this
 obtain⟨V,hV⟩:∃V,Value.agg (encR (normR r)).toArray=V:=⟨_,rfl⟩;have HV:Hid (V=.agg #[.iface (tyK (normK (r.getD 0 K.zero))) (plK (normK (r.getD 0 K.zero))),.iface (tyK (normK (r.getD 1 K.zero))) (plK (normK (r.getD 1 K.zero))),.iface (tyK (normK (r.getD 2 K.zero))) (plK (normK (r.getD 2 K.zero))),.iface (tyK (normK (r.getD 3 K.zero))) (plK (normK (r.getD 3 K.zero))),.iface (tyK (normK (r.getD 4 K.zero))) (plK (normK (r.getD 4 K.zero))),.iface (tyK (normK (r.getD 5 K.zero))) (plK (normK (r.getD 5 K.zero)))]):=by rw[encR_norm]at hV;exact hV.symm
 rw[hV];clear hs hv hV;have R2:=row_below (six_alloc (w.alloc (.cells #[.slice a 6 cap] 116))) ((Below.refl _ _).alloc (Nat.le_refl _) (.cells #[.nilIface,.nilIface,.nilIface,.nilIface,.nilIface,.nilIface] 130));have R3:=six_alloc ((w.alloc (.cells #[.slice a 6 cap] 116)).alloc (.cells #[.nilIface,.nilIface,.nilIface,.nilIface,.nilIface,.nilIface] 130));have e1:(w.alloc (.cells #[.slice a 6 cap] 116)).heap.size=w.heap.size+1:=by simp
 have e2:((w.alloc (.cells #[.slice a 6 cap] 116)).alloc (.cells #[.nilIface,.nilIface,.nilIface,.nilIface,.nilIface,.nilIface] 130)).heap.size=w.heap.size+2:=by simp
 rw[e1]at R2;rw[e2]at R3;have B0:Below w.heap.size w (((w.alloc (.cells #[.slice a 6 cap] 116)).alloc (.cells #[.nilIface,.nilIface,.nilIface,.nilIface,.nilIface,.nilIface] 130)).alloc (.cells #[.nilIface,.nilIface,.nilIface,.nilIface,.nilIface,.nilIface] 130)):=(((Below.refl _ _).alloc (Nat.le_refl _) _).alloc (by simp) _).alloc (by simp;omega) _;go_enter Tryz.func72,Tryz.ntmps72;go_wp2_with fail;generalize((w.alloc (.cells #[.slice a 6 cap] 116)).alloc (.cells #[.nilIface,.nilIface,.nilIface,.nilIface,.nilIface,.nilIface] 130)).alloc (.cells #[.nilIface,.nilIface,.nilIface,.nilIface,.nilIface,.nilIface] 130)=W at*;clear e1 e2;go_loopw [9](fun i wr=>∃k:Nat,k<=6∧i=.int .i64 k∧Below w.heap.size w wr∧wr.rowIs (w.heap.size+1) 130 6 (fun _=>.nilIface)∧wr.rowIs (w.heap.size+2) 130 6 (fun j=>if j<k then .iface (tyK (normK (r.getD j K.zero))) (plK (normK (r.getD j K.zero)))else .nilIface))(fun i _=>6-(intOf i).toNat)
 case atStart=>exact⟨0,by omega,rfl,B0,R2,by simpa using R3⟩
 case round=>
  clear B0 R2 R3;obtain⟨k,hk,rfl,B,R2,R3⟩:=hrel;rename World=>W0
  by_cases hk6:k<6
  ·obtain⟨b,o,rfl,hlt,c0,c1,c2⟩:=HP.out W0 B k hk6;have HCk:Hid _:=HC.out k;have hk6':(k:Int)<6:=by omega
   have HN:Hid (∀w1,Below (W0.alloc (.cells #[.int .i64 (r.getD k K.zero).kind,.int .u64 ((r.getD k K.zero).a:Int),.int .u64 ((r.getD k K.zero).b:Int)] 94)).heap.size (W0.alloc (.cells #[.int .i64 (r.getD k K.zero).kind,.int .u64 ((r.getD k K.zero).a:Int),.int .u64 ((r.getD k K.zero).b:Int)] 94)) w1->
    Below w.heap.size w w1∧w1.rowIs (w.heap.size+1) 130 6 (fun _=>.nilIface)∧w1.rowIs (w.heap.size+2) 130 6 (fun j=>if j<k then .iface (tyK (normK (r.getD j K.zero))) (plK (normK (r.getD j K.zero)))else .nilIface)):=by
    intro w1 hb;have hb0:Below W0.heap.size W0 (W0.alloc (.cells #[.int .i64 (r.getD k K.zero).kind,.int .u64 ((r.getD k K.zero).a:Int),.int .u64 ((r.getD k K.zero).b:Int)] 94)):=(Below.refl _ _).alloc (Nat.le_refl _) _;exact⟨below_step hb (below_step hb0 B),row_below (row_below R2 hb0) hb,row_below (row_below R3 hb0) hb⟩
   clear HP HC R2 R3 B;obtain⟨c,hcr⟩:∃c,r.getD k K.zero=c:=⟨_,rfl⟩;have Hcr:Hid (r.getD k K.zero=c):=hcr;rw[hcr]at c0 c1 c2 HN HCk;clear hcr;obtain⟨ck,ca,cb⟩:=c;simp only at c0 c1 c2 HN;simp only[conV]at HCk;go_wp2_with fail;refine(HCk.out _).mono ?_;rintro _ w9⟨rfl,hb9⟩;obtain⟨B9,R2,R3⟩:=HN.out w9 hb9;have q0:w9.cell? ⟨w.heap.size+2,k,none⟩=some .nilIface:=(R3.cell (i:=k) hk6).trans (by simp);have z0:=R3.frozen k;have HR4:Hid ((w9.setCell ⟨w.heap.size+2,k,none⟩ (.iface (tyK (normK ⟨ck,ca,cb⟩)) (plK (normK ⟨ck,ca,cb⟩)))).rowIs (w.heap.size+2) 130 6 (fun j=>if j<k+1 then .iface (tyK (normK (r.getD j K.zero))) (plK (normK (r.getD j K.zero)))else .nilIface)):=by
    have R4:=R3.set k (.iface (tyK (normK ⟨ck,ca,cb⟩)) (plK (normK ⟨ck,ca,cb⟩)));have e:(fun j=>if j=k then Value.iface (tyK (normK ⟨ck,ca,cb⟩)) (plK (normK ⟨ck,ca,cb⟩))else if j<k then Value.iface (tyK (normK (r.getD j K.zero))) (plK (normK (r.getD j K.zero)))else .nilIface)=(fun j=>if j<k+1 then Value.iface (tyK (normK (r.getD j K.zero))) (plK (normK (r.getD j K.zero)))else .nilIface):=by
     funext j;by_cases h1:j=k
     ·subst h1;rw[if_pos rfl,if_pos (by omega),Hcr.out]
     by_cases h2:j<k
     ·rw[if_neg h1,if_pos h2,if_pos (by omega)]
     rw[if_neg h1,if_neg h2,if_neg (by omega)]
    rw[e]at R4;exact R4
   have HR5:Hid ((w9.setCell ⟨w.heap.size+2,k,none⟩ (.iface (tyK (normK ⟨ck,ca,cb⟩)) (plK (normK ⟨ck,ca,cb⟩)))).rowIs (w.heap.size+1) 130 6 (fun _=>.nilIface)):=R2.of_block (by simp only[World.setCell,Array.getElem?_modify];rw[if_neg (by omega)]);have HB9:Hid (Below w.heap.size w (w9.setCell ⟨w.heap.size+2,k,none⟩ (.iface (tyK (normK ⟨ck,ca,cb⟩)) (plK (normK ⟨ck,ca,cb⟩))))):=B9.setCell (p:=⟨w.heap.size+2,k,none⟩) (by show w.heap.size<=w.heap.size+2;omega) _;clear R2 R3 B9 hb9 HN HCk Hcr c0 c1 c2;go_wp2;go_roundw
   case rel=>exact⟨k+1,by omega,by go_num,HB9.out,HR5.out,HR4.out⟩
   case measure=>simp[intOf];omega
  have hk':k=6:=by omega
  subst hk';have q0:W0.cell? ⟨w.heap.size+2,0,none⟩=some (.iface (tyK (normK (r.getD 0 K.zero))) (plK (normK (r.getD 0 K.zero)))):=(R3.cell (i:=0) (by omega)).trans (by simp);have y0:=R2.cell (i:=0) (by omega);have z0:=R2.frozen 0;have q1:W0.cell? ⟨w.heap.size+2,1,none⟩=some (.iface (tyK (normK (r.getD 1 K.zero))) (plK (normK (r.getD 1 K.zero)))):=(R3.cell (i:=1) (by omega)).trans (by simp);have y1:=R2.cell (i:=1) (by omega);have z1:=R2.frozen 1;have q2:W0.cell? ⟨w.heap.size+2,2,none⟩=some (.iface (tyK (normK (r.getD 2 K.zero))) (plK (normK (r.getD 2 K.zero)))):=(R3.cell (i:=2) (by omega)).trans (by simp);have y2:=R2.cell (i:=2) (by omega);have z2:=R2.frozen 2;have q3:W0.cell? ⟨w.heap.size+2,3,none⟩=some (.iface (tyK (normK (r.getD 3 K.zero))) (plK (normK (r.getD 3 K.zero)))):=(R3.cell (i:=3) (by omega)).trans (by simp);have y3:=R2.cell (i:=3) (by omega);have z3:=R2.frozen 3;have q4:W0.cell? ⟨w.heap.size+2,4,none⟩=some (.iface (tyK (normK (r.getD 4 K.zero))) (plK (normK (r.getD 4 K.zero)))):=(R3.cell (i:=4) (by omega)).trans (by simp);have y4:=R2.cell (i:=4) (by omega);have z4:=R2.frozen 4;have q5:W0.cell? ⟨w.heap.size+2,5,none⟩=some (.iface (tyK (normK (r.getD 5 K.zero))) (plK (normK (r.getD 5 K.zero)))):=(R3.cell (i:=5) (by omega)).trans (by simp);have y5:=R2.cell (i:=5) (by omega);have z5:=R2.frozen 5;generalize tyK (normK (r.getD 0 K.zero))=t0 at*;generalize plK (normK (r.getD 0 K.zero))=p0 at*;generalize tyK (normK (r.getD 1 K.zero))=t1 at*;generalize plK (normK (r.getD 1 K.zero))=p1 at*;generalize tyK (normK (r.getD 2 K.zero))=t2 at*;generalize plK (normK (r.getD 2 K.zero))=p2 at*;generalize tyK (normK (r.getD 3 K.zero))=t3 at*;generalize plK (normK (r.getD 3 K.zero))=p3 at*;generalize tyK (normK (r.getD 4 K.zero))=t4 at*;generalize plK (normK (r.getD 4 K.zero))=p4 at*;generalize tyK (normK (r.getD 5 K.zero))=t5 at*;generalize plK (normK (r.getD 5 K.zero))=p5 at*;clear HP HC R2 R3;go_wp2;exact bodyPost_ret (v:=.agg #[.iface t0 p0,.iface t1 p1,.iface t2 p2,.iface t3 p3,.iface t4 p4,.iface t5 p5]) (by simp[results,Tryz.results72,go_sem,y0,y1,y2,y3,y4,y5]) rfl ⟨by rw[HV.out],below_set6 B (by omega) _ _ _ _ _ _⟩
def kCells(l:List K):List Value:=l.flatMap fun c=>[.int .i64 c.kind,.int .u64 (c.a:Int),.int .u64 (c.b:Int)]
theorem kCells_snoc(l:List K)(c:K):kCells (l++[c])=kCells l++[.int .i64 c.kind,.int .u64 (c.a:Int),.int .u64 (c.b:Int)]:=by simp[kCells]
abbrev ownsK(w:World)(B:Nat)(v:Value)(l:List K):Prop:=w.ownsRow B 94 3 v l.length (kCells l)
theorem infoConR:(Tryz.prog.info? 94).map (fun i=>(i.zero,i.size,i.bytes))=some (some (.agg #[.int .i64 0,.int .u64 0,.int .u64 0]),3,24):=by kernel_rfl
theorem take_snocK{r:Ru}{k:Nat}(h:k<r.length):r.take (k+1)=r.take k++[r.getD k K.zero]:=by
 rw[List.take_add_one,List.getElem?_eq_getElem h,List.getD_eq_getElem?_getD,List.getElem?_eq_getElem h];rfl
theorem ownsK_below{w w1:World}{B:Nat}{v:Value}{l:List K}(h:ownsK w B v l)(hb:Below w.heap.size w w1):ownsK w1 B v l:=World.ownsRow.kept (row:=none) h ⟨hb.os,hb.tape,hb.output,hb.size,fun k hk _=>hb.block k hk⟩ (by cases v.ownBlock<;>simp)
theorem row_blockK{w w1:World}{base t s n:Nat}{v:Value}{xs:List Value}(h:w.ownsRow base t s v n xs)(e:∀q,v.ownBlock=some q->w1.heap[q]? =w.heap[q]?):w1.ownsRow base t s v n xs:=by
 obtain⟨h0,h|⟨g,cap,cur,rfl,hb,hg,hr⟩⟩:=h
 ·exact⟨h0,.inl h⟩
 exact⟨h0,.inr ⟨g,cap,cur,rfl,hb,(e g (by simp[Value.ownBlock])).trans hg,hr⟩⟩
theorem box_get(u:World)(x:Value)(t A:Nat)(h:A=u.heap.size):(u.alloc (.cells #[x] t)).cell? ⟨A,0,none⟩=some x∧(u.alloc (.cells #[x] t)).frozen? ⟨A,0,none⟩=false:=by subst h;constructor<;>simp
structure RuS(w wr:World)(v:Value)(g:Nat)(l:List K):Prop where
 b:Below w.heap.size w wr
 c:wr.cell? ⟨w.heap.size+1+1,0,none⟩=some v
 f:wr.frozen? ⟨w.heap.size+1+1,0,none⟩=false
 c0:wr.cell? ⟨w.heap.size,0,none⟩=some (.slice none 0 0)
 f0:wr.frozen? ⟨w.heap.size,0,none⟩=false
 own:ownsK wr (w.heap.size+1) v l
 ob:v.ownBlock=some g
 ne:g≠w.heap.size+1+1
theorem RuS.keep{w wr w1:World}{v:Value}{g:Nat}{l:List K}(h:RuS w wr v g l)(hb:Below wr.heap.size wr w1):RuS w w1 v g l:=
 have h1:=cell_ltK h.c
 have h2:=cell_ltK h.c0
 ⟨below_step hb h.b,cell_step hb h.c,(hb.frozen (p:=⟨w.heap.size+1+1,0,none⟩) h1).trans h.f,cell_step hb h.c0,(hb.frozen (p:=⟨w.heap.size,0,none⟩) h2).trans h.f0,ownsK_below h.own hb,h.ob,h.ne⟩
theorem RuS.next{w wr w1:World}{v:Value}{g gg cap:Nat}{l:List K}{c:K}(h:RuS w wr v g l)(hown:w1.ownsRow (w.heap.size+1) 94 3 (.slice (some ⟨gg,0,none⟩) (l.length+1) cap) (l.length+1) (kCells l++[.int .i64 c.kind,.int .u64 (c.a:Int),.int .u64 (c.b:Int)]))(hg:wr.grownBy w1 v.ownBlock)(hat:v.ownBlock=some gg∨gg=wr.heap.size):
 w1.cell? ⟨w.heap.size+1+1,0,none⟩=some v∧w1.frozen? ⟨w.heap.size+1+1,0,none⟩=false∧RuS w (w1.setCell ⟨w.heap.size+1+1,0,none⟩ (.slice (some ⟨gg,0,none⟩) (l.length+1) cap)) (.slice (some ⟨gg,0,none⟩) (l.length+1) cap) gg (l++[c]):=by
 have h1:=cell_ltK h.c;have h2:=cell_ltK h.c0;simp only at h1 h2;have hgb:=(h.own.lt g h.ob).1;have ne1:some (w.heap.size+1+1)≠v.ownBlock:=by rw[h.ob];intro e;cases e;exact h.ne rfl
 have ne2:some w.heap.size≠v.ownBlock:=by rw[h.ob];intro e;injection e with e;omega
 have x1:=(hg.cell_far ⟨w.heap.size+1+1,0,none⟩ h1 ne1).trans h.c;have x2:=(hg.frozen_far ⟨w.heap.size+1+1,0,none⟩ h1 ne1).trans h.f;have x3:=(hg.cell_far ⟨w.heap.size,0,none⟩ h2 ne2).trans h.c0;have x4:=(hg.frozen_far ⟨w.heap.size,0,none⟩ h2 ne2).trans h.f0;have hgne:gg≠w.heap.size+1+1:=by
  rcases hat with e|e
  ·rw[h.ob]at e;cases e;exact h.ne
  omega
 have hb1:Below w.heap.size w w1:=h.b.grown hg (by omega) (fun z hz=>by rw[h.ob]at hz;cases hz;omega);refine⟨x1,x2,⟨hb1.setCell (p:=⟨w.heap.size+1+1,0,none⟩) (by show w.heap.size<=w.heap.size+1+1;omega) _,World.cell?_setCell_same _ _ _ x1,by rw[frozen_setCell];exact x2,?_,by rw[frozen_setCell];exact x4,?_,rfl,hgne⟩⟩
 ·rw[World.cell?_setCell_other _ _ _ _ (by intro e;injection e with e;omega)];exact x3
 have e:(l++[c]).length=l.length+1:=by simp
 show World.ownsRow _ _ _ _ _ (l++[c]).length (kCells (l++[c]));rw[e,kCells_snoc];exact row_blockK hown (fun q hq=>by
  have:q=gg:=by simpa[Value.ownBlock]using hq.symm
  subst this
  simp only[World.setCell,Array.getElem?_modify];rw[if_neg (fun e=>hgne e.symm)])
theorem ruleOut_any(r:Ru)(D o:Nat)(w:World)(hs:RuAt w D o r)(hv:NR r):
 Calls Tryz.prog 77 #[.pointer (some ⟨D,o,none⟩)] w fun e w'=>∃v,e=.returned (.agg #[v])∧ownsK w' w.heap.size v r∧Below w.heap.size w w':=by
 obtain⟨i0,hi,hz0,hz1,hz2⟩:=info_parts infoConR;have HX:Hid (∀wr,Below w.heap.size w wr->∀k,k<6->wr.cell? ⟨D,o+k,none⟩=some (.iface (tyK (r.getD k K.zero)) (plK (r.getD k K.zero)))):=fun wr h k hk=>(hs.below h).2 k hk
 have HM:Hid (∀k,MethC (r.getD k K.zero)):=fun k=>methC (hv.2 k)
 have HT:Hid (∀k,k<6->r.take (k+1)=r.take k++[r.getD k K.zero]):=fun k hk=>take_snocK (by rw[hv.1];exact hk)
 have HTl:Hid (∀k,k<=6->(r.take k).length=k):=fun k hk=>by rw[List.length_take,hv.1];omega
 have HT6:Hid (r.take 6=r):=by unfold Hid;rw[<-hv.1];exact List.take_length
 clear hs hv;have hmk:∀u:World,(Instr.makeSlice 114 (.int .i64 0) (.int .i64 6)).run Tryz.prog u=
  .ok (.slice (some ⟨u.heap.size,0,none⟩) 0 6) (u.alloc (.cells (madeCells #[.int .i64 0,.int .u64 0,.int .u64 0] 18) 94)):=fun u=>by
  have h:=run_make (P:=Tryz.prog) u 114 94 i0 _ Tryz.underlying114 hi hz0 .i64 .i64 0 6 (by omega) (by omega) (by rw[hz2];omega) (by omega);simpa[hz1,Value.cells]using h
 go_enter Tryz.func77,Tryz.ntmps77;go_wp2_with fail;have S0:RuS w (((w.alloc (.cells #[.slice none 0 0] 116)).alloc (.cells (madeCells #[.int .i64 0,.int .u64 0,.int .u64 0] 18) 94)).alloc (.cells #[.slice (some ⟨w.heap.size+1,0,none⟩) 0 6] 116)) (.slice (some ⟨w.heap.size+1,0,none⟩) 0 6) (w.heap.size+1) []:=by
  have q1:=box_get ((w.alloc (.cells #[.slice none 0 0] 116)).alloc (.cells (madeCells #[.int .i64 0,.int .u64 0,.int .u64 0] 18) 94)) (.slice (some ⟨w.heap.size+1,0,none⟩) 0 6) 116 (w.heap.size+1+1) (by simp);have q2:=box_get w (.slice none 0 0) 116 w.heap.size rfl;have hb2:Below (w.alloc (.cells #[.slice none 0 0] 116)).heap.size (w.alloc (.cells #[.slice none 0 0] 116)) (((w.alloc (.cells #[.slice none 0 0] 116)).alloc (.cells (madeCells #[.int .i64 0,.int .u64 0,.int .u64 0] 18) 94)).alloc (.cells #[.slice (some ⟨w.heap.size+1,0,none⟩) 0 6] 116)):=((Below.refl _ _).alloc (Nat.le_refl _) _).alloc (by simp) _;refine⟨(((Below.refl _ _).alloc (Nat.le_refl _) _).alloc (by simp) _).alloc (by simp;omega) _,q1.1,q1.2,(hb2.cell (p:=⟨w.heap.size,0,none⟩) (by simp)).trans q2.1,(hb2.frozen (p:=⟨w.heap.size,0,none⟩) (by simp)).trans q2.2,?_,rfl,by omega⟩;have h:=World.ownsRow_made (base:=w.heap.size+1) (e:=94) (size:=3) (w.alloc (.cells #[.slice none 0 0] 116)) (madeCells #[.int .i64 0,.int .u64 0,.int .u64 0] 18) 6 (by simp) (by unfold maxLen;omega) (by rw[size_madeCells]);have e:(w.alloc (.cells #[.slice none 0 0] 116)).heap.size=w.heap.size+1:=by simp
  rw[e]at h;exact h.alloc _
 generalize(((w.alloc (.cells #[.slice none 0 0] 116)).alloc (.cells (madeCells #[.int .i64 0,.int .u64 0,.int .u64 0] 18) 94)).alloc (.cells #[.slice (some ⟨w.heap.size+1,0,none⟩) 0 6] 116))=W at*;clear hmk;go_loopw [10](fun i wr=>∃(k:Nat)(v:Value)(g:Nat),k<=6∧i=.int .i64 k∧RuS w wr v g (r.take k))(fun i _=>6-(intOf i).toNat)
 case atStart=>exact⟨0,_,_,by omega,rfl,S0⟩
 case round=>
  clear S0;obtain⟨k,v,g,hk,rfl,hS⟩:=hrel;rename World=>W0
  by_cases hk6:k<6
  ·have x0:=HX.out W0 hS.b k hk6;obtain⟨T,P,F,e1,e2,e4,e5,HF0⟩:=HM.out k;rw[setV_form]at e1;injection e1 with eT eP
   subst eT;subst eP;have HF:Hid (∀w,Calls Tryz.prog F #[plK (r.getD k K.zero)] w fun e w'=>e=.returned (conV (r.getD k K.zero))∧LB w w'):=HF0;have HTk:Hid (r.take (k+1)=r.take k++[r.getD k K.zero]):=HT.out k hk6;have hlk:=HTl.out k (by omega);have hk6':(k:Int)<6:=by omega
   have hc:=hS.c;clear HX HM HT HTl HT6 HF0;generalize tyK (r.getD k K.zero)=T at*;generalize plK (r.getD k K.zero)=P at*;generalize hcr:r.getD k K.zero=c at*;clear hcr;generalize r.take k=l at*;obtain⟨ck,ca,cb⟩:=c;simp only[conV]at HF;have SKc:Hid (∀w9,LB W0.drew w9->RuS w w9 v g l∧w9.cell? ⟨w.heap.size+1+1,0,none⟩=some v∧w.heap.size+1+1<w9.heap.size∧∀ob,(w9.alloc ob).cell? ⟨w.heap.size+1+1,0,none⟩=some v):=fun w9 hb=>by
    have:=(hS.keep (Below.refl _ _).drew).keep hb.1;exact⟨this,this.c,cell_ltK this.c,fun ob=>cell_step ((Below.refl _ _).alloc (Nat.le_refl _) ob) this.c⟩
   have hcd:W0.drew.cell? ⟨w.heap.size+1+1,0,none⟩=some v:=hS.c;have hvf:∃gg cc,v=.slice (some ⟨gg,0,none⟩) k cc:=by
    obtain⟨_,h|⟨gg,cc,cur,e,_⟩⟩:=hS.own
    ·have:=hS.ob;rw[h.1]at this;cases this
    exact⟨gg,cc,by rw[e,hlk]⟩
   obtain⟨gg0,cc0,rfl⟩:=hvf;have hbm:l.length+1<=maxLen:=by rw[hlk];unfold maxLen;omega
   have hbd:(l.length+1)*24<=140737488355328:=by rw[hlk];omega
   have HLk:Hid (l.length=k):=hlk;clear hS hc hlk;go_wp2_with fail;go_region_law(first
    |(go_simp;refine(HF.out _).mono ?_;rintro _ w9⟨rfl,hb9⟩;obtain⟨hS9,hc9,hl9,ha9⟩:=SKc.out w9 hb9;dsimp only)
    |(refine step_append_lies _ (by rfl) _ _ _ (by rfl) (w.heap.size+1) 94 i0 _ 3 24 Tryz.underlying114 hi hz0 hz1 hz2 rfl (by omega) (.slice (some ⟨gg0,0,none⟩) k cc0) l.length (kCells l) (by rfl) (hS9.own.alloc _) ⟨w9.heap.size,0,none⟩ 1 1 [.int .i64 ck,.int .u64 (ca:Int),.int .u64 (cb:Int)] (by rfl) (by rfl) (World.news_of_block (t:=94) (fr:=(0,0)) (heap_alloc_new w9 _)) (by simp[Value.oneCell']) (by omega) hbm hbd (by simp;omega) (w9.heap.size+1) (by simp) ?_;intro gg cap2 w1 hown1 hgrow hat hlt2;obtain⟨x1,x2,x3⟩:=RuS.next (c:=⟨ck,ca,cb⟩) (hS9.keep ((Below.refl _ _).alloc (Nat.le_refl _) _)) hown1 hgrow (by simpa using hat)))
   all_goals
    have HX3:Hid _:=x3;clear x1 x2 x3 hown1 hgrow hat hlt2 hS9 hc9 hl9 ha9 hb9 SKc HF;go_wp2;go_roundw
    case rel=>exact⟨k+1,_,gg,by omega,by go_num,by rw[HTk.out];exact HX3.out⟩
    case measure=>simp[intOf];omega
  have hk':k=6:=by omega
  subst hk';rw[HT6.out]at hS;obtain⟨hb,hc,hf,hc0,hf0,hown,hob,hne⟩:=hS;have hvf:∃gg cc,v=.slice (some ⟨gg,0,none⟩) r.length cc:=by
   obtain⟨_,h|⟨gg,cc,cur,e,_⟩⟩:=hown
   ·rw[h.1]at hob;cases hob
   exact⟨gg,cc,e⟩
  obtain⟨gg,cc,rfl⟩:=hvf;have hg:gg=g:=by simpa[Value.ownBlock]using hob
  subst hg;have hge:=(hown.lt gg hob).1;have HO:Hid (ownsK (W0.setCell ⟨w.heap.size,0,none⟩ (.slice (some ⟨gg,0,none⟩) r.length cc)) w.heap.size (.slice (some ⟨gg,0,none⟩) r.length cc) r):=by
   refine World.ownsRow.mono (base:=w.heap.size+1) (row_blockK hown (fun q hq=> ?_)) (by omega);have:q=gg:=by simpa[Value.ownBlock]using hq.symm
   subst this;simp only[World.setCell,Array.getElem?_modify];rw[if_neg (by omega)]
  have HB:Hid (Below w.heap.size w (W0.setCell ⟨w.heap.size,0,none⟩ (.slice (some ⟨gg,0,none⟩) r.length cc))):=hb.setCell (p:=⟨w.heap.size,0,none⟩) (Nat.le_refl _) _;clear hown hb HX HM HT HTl HT6;generalize r.length=rl at*;go_wp2;exact bodyPost_ret (v:=.agg #[.slice (some ⟨gg,0,none⟩) rl cc]) (by simp[results,Tryz.results77,go_sem,hc0]) rfl ⟨_,rfl,HO.out,HB.out⟩
end Go.Proofs.YtddemlfepjkgoaaGreat
