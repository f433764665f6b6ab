import Derived.Test.YtddemlfepjkgoaaGreatQ48
set_option linter.all false
set_option maxRecDepth 200000
set_option maxHeartbeats 16000000
namespace Go.Proofs.YtddemlfepjkgoaaGreat
open Go.RowKit
structure ClS(w W:World)(L b o:Nat)(B:List Int)(cap D N:Nat)(cs:List C)(j:Nat):Prop where
 fr:Far w W (fun q=>q=L)
 lg:LgS W L b o B cap j
 jn:j<=B.length
 own:∃vs,OwnC W D N vs cs
 dw:w.heap.size<=D
 fin:finR B.length cs (framesR B.length (N-cs.length) (B.drop j))=decLog B
theorem ClS.lt{w W:World}{L b o:Nat}{B:List Int}{cap D N:Nat}{cs:List C}{j:Nat}(h:ClS w W L b o B cap D N cs j):D<W.heap.size:=by obtain⟨vs,hv⟩:=h.own;exact hv.lt
theorem ClS.next{w W W1:World}{L b o:Nat}{B:List Int}{cap D N:Nat}{cs:List C}{j j' Dc:Nat}{c:C}(h:ClS w W L b o B cap D N cs j)(hLw:L<w.heap.size)(hbw:b<w.heap.size)(hi:cs.length<N)(hF:Far W W1 (fun q=>q=L))(hfr:frameR B.length (B.drop j)=.inr (c,B.drop j'))(hj:j'<=B.length)(hDc:W.heap.size<=Dc)(ho:ownsU W1 Dc (.slice (some ⟨Dc,0,none⟩) 6 6) c.args)(hl:LgS W1 L b o B cap j')(x:Obj):
 (∀t,t<3->((W1.alloc x).cell? ⟨D,cs.length*3+t,none⟩).isSome=true∧(W1.alloc x).frozen? ⟨D,cs.length*3+t,none⟩=false)∧
 ClS w (((((W1.alloc x).setCell ⟨D,cs.length*3,none⟩ (.int .u32 c.arch)).setCell ⟨D,cs.length*3+1,none⟩ (.int .u32 c.nr)).setCell ⟨D,cs.length*3+2,none⟩ (.slice (some ⟨Dc,0,none⟩) 6 6))) L b o B cap D N (cs++[c]) j':=by
 obtain⟨vs,hv⟩:=h.own
 have hD:=h.lt
 have hdw:=h.dw
 have hv1:=hv.farD hF (fun q hq=>by omega)
 have hb:Below W1.heap.size W1 (W1.alloc x):=(Below.refl _ _).alloc (Nat.le_refl _) x
 have hv2:=hv1.below hb
 have hle:=hv.le
 refine⟨fun t ht=> ?_,?_⟩
 ·obtain⟨y,e1,e2⟩:=hv2.cellOk (cs.length*3+t) (by omega)
  exact⟨by rw[e1];rfl,e2⟩
 ·have ho2:ownsU (W1.alloc x) Dc (.slice (some ⟨Dc,0,none⟩) 6 6) c.args:=ownsU_below ho hb
  have hp:=hv2.push (c:=c) (v':=.slice (some ⟨Dc,0,none⟩) 6 6) (H:=Dc) hi (fun i hi' q hq=>by have:=((hv.own i hi').lt q hq).2;omega) (by omega) ho2
  have hbL:L<W1.heap.size:=Nat.lt_of_lt_of_le hLw (Nat.le_trans h.fr.size hF.size)
  have hbb:b<W1.heap.size:=Nat.lt_of_lt_of_le hbw (Nat.le_trans h.fr.size hF.size)
  refine⟨((((h.fr.trans hF).below hb).setNew hdw).setNew hdw).setNew hdw,(hl.blk (hb.block L hbL) (hb.block b hbb)).blk ?_ ?_,hj,⟨_,hp⟩,hdw,?_⟩
  ·rw[set_blkD (by omega),set_blkD (by omega),set_blkD (by omega)]
  ·rw[set_blkD (by omega),set_blkD (by omega),set_blkD (by omega)]
  ·have e:N-cs.length=(N-(cs++[c]).length)+1:=by simp;omega
   have hf:=h.fin
   rw[e,framesR_good hfr]at hf
   exact hf
theorem ClS.start{w W:World}{L b o:Nat}{B:List Int}{cap N:Nat}(hF:Far w W (fun q=>q=L))(hl:LgS W L b o B cap 7)(h7:7<=B.length)(hLw:L<w.heap.size)(hbw:b<w.heap.size)(hd:finR B.length [] (framesR B.length N (B.drop 7))=decLog B):
 ClS w (W.alloc (.cells (madeCells #[.int .u32 0,.int .u32 0,.slice none 0 0] (N*3)) 39)) L b o B cap W.heap.size N [] 7:=by
 have hb:Below W.heap.size W (W.alloc (.cells (madeCells #[.int .u32 0,.int .u32 0,.slice none 0 0] (N*3)) 39)):=(Below.refl _ _).alloc (Nat.le_refl _) _;have hr:=World.rowIs_alloc W (madeCells #[.int .u32 0,.int .u32 0,.slice none 0 0] (N*3)) 39 (fun i=>(madeCells #[.int .u32 0,.int .u32 0,.slice none 0 0] (N*3)).getD i undef) (fun i h=>by simp[h]);rw[size_madeCells]at hr;exact⟨hF.below hb,hl.blk (hb.block L (Nat.lt_of_lt_of_le hLw hF.size)) (hb.block b (Nat.lt_of_lt_of_le hbw hF.size)),h7,⟨fun _=>.slice none 0 0,⟨⟨_,hr,fun i hi=>by simp at hi⟩,by simp,fun i hi=>by simp at hi,fun i j p q _ hj=>by simp at hj⟩⟩,hF.size,hd⟩
structure McS(w:World)(B:Nat)(v:Value)(os:List (C×Value)):Prop where
 row:ownsP w B v os
 own:∀p∈os,ownsU w B p.2 p.1.args
theorem McS.below{w w1:World}{B:Nat}{v:Value}{os:List (C×Value)}(h:McS w B v os)(hb:Below w.heap.size w w1):McS w1 B v os:=
 ⟨ownsP_below h.row hb,fun p hp=>ownsU_below (h.own p hp) hb⟩
theorem McS.push{w w1:World}{B:Nat}{v v':Value}{os:List (C×Value)}{p:C×Value}{o:Obj}(h:McS w B v os)(hp:ownsU w B p.2 p.1.args)(hg:(w.alloc o).grownBy w1 v.ownBlock)(hr:ownsP w1 B v' (os++[p])):McS w1 B v' (os++[p]):=by
 refine⟨hr,fun q hq=> ?_⟩;have key:ownsU w B q.2 q.1.args->ownsU w1 B q.2 q.1.args:=fun hu=>World.ownsRow.kept (World.ownsRow.alloc hu o) hg (rows_apart hu h.row (by decide))
 rcases List.mem_append.1 hq with h1|h1
 ·exact key (h.own q h1)
 simp at h1;subst h1;exact key hp
theorem McS.src{w:World}{B:Nat}{v:Value}{os:List (C×Value)}(h:McS w B v os):∃a cap,v=.slice a os.length cap∧os.length<=cap∧CSrc w a (os.map Prod.fst):=
 ownsP_src h.row (fun p hp=>ownsU_src (h.own p hp))
end Go.Proofs.YtddemlfepjkgoaaGreat
namespace Go.Proofs.YtddemlfepjkgoaaGreat
open Go.RowKit Go.Deep
def nearA(c:C)(i:Nat)(l:List Int)(j:Nat):C:=⟨c.arch,c.nr,c.args.set i (nearV (c.args.getD i 0) l j)⟩
def nxtC(l:List Int)(cs:List C)(j:Nat):C×Nat:=
 if l.getD j 0%8<2∨cs.length=0 then(callD l (j+1),callJ l (j+1))
 else if l.getD j 0%8=7 then(cs.getD (l.getD (j+1) 0%(cs.length:Int)).toNat C.zero,j+2)
 else if l.getD j 0%8<5 then(nearA (cs.getD (l.getD (j+1) 0%(cs.length:Int)).toNat C.zero) (l.getD (j+2) 0%6).toNat l (j+3),nearJ l (j+3))
 else(nearA (nearA (cs.getD (l.getD (j+1) 0%(cs.length:Int)).toNat C.zero) (l.getD (j+2) 0%6).toNat l (j+3)) (l.getD (nearJ l (j+3)) 0%3).toNat l (nearJ l (j+3)+1),nearJ l (nearJ l (j+3)+1))
def goC(l:List Int):Nat->Nat->List C->Nat->List C×Nat
 |0,_,cs,j=>(cs,j)
 |f+1,i,cs,j=>if i<2∨j<l.length then goC l f (i+1) (cs++[(nxtC l cs j).1]) (nxtC l cs j).2 else(cs,j)
def callsD(l:List Int)(j:Nat):List C×Nat:=goC l (l.getD j 0%40).toNat 0 [] (j+1)
def Ok6(c:C):Prop:=c.ok∧c.args.length=6
theorem nearA_ok{c:C}(h:Ok6 c)(i:Nat)(l:List Int)(hl:isBytes l)(j:Nat):Ok6 (nearA c i l j):=by
 obtain⟨⟨h1,h2,h3,h4,h5⟩,h6⟩:=h;refine⟨⟨h1,h2,h3,h4,fun v hv=> ?_⟩,by show(c.args.set i _).length=6;rw[List.length_set];exact h6⟩;rcases List.mem_or_eq_of_mem_set hv with h|rfl
 ·exact h5 v h
 refine nearV_isU ?_ l hl j;by_cases hi:i<c.args.length
 ·rw[List.getD_eq_getElem?_getD,List.getElem?_eq_getElem hi];exact h5 _ (List.getElem_mem hi)
 rw[List.getD_eq_getElem?_getD,List.getElem?_eq_none (by omega)];unfold isU;simp
theorem nxtC_ok{l:List Int}(hl:isBytes l){cs:List C}(h:∀c∈cs,Ok6 c)(j:Nat):Ok6 (nxtC l cs j).1:=by
 unfold nxtC;split
 ·exact callD_ok l hl _
 rename_i hne;have hb:=isBytes_getD hl (j+1);have hc:Ok6 (cs.getD (l.getD (j+1) 0%(cs.length:Int)).toNat C.zero):=by
  have h0:0<cs.length:=by omega
  have hlt:(l.getD (j+1) 0%(cs.length:Int)).toNat<cs.length:=by
   have:=Int.emod_nonneg (l.getD (j+1) 0) (show(cs.length:Int)≠0 by omega);have:=Int.emod_lt_of_pos (l.getD (j+1) 0) (show(0:Int)<cs.length by omega);omega
  rw[List.getD_eq_getElem?_getD,List.getElem?_eq_getElem hlt];exact h _ (List.getElem_mem hlt)
 split
 ·exact hc
 split
 ·exact nearA_ok hc _ l hl _
 exact nearA_ok (nearA_ok hc _ l hl _) _ l hl _
theorem goC_ok{l:List Int}(hl:isBytes l)(f i:Nat)(cs:List C)(j:Nat)(h:∀c∈cs,Ok6 c):(∀c∈(goC l f i cs j).1,Ok6 c)∧(goC l f i cs j).1.length<=cs.length+f:=by
 induction f generalizing i cs j with
 |zero=>exact⟨h,by simp[goC]⟩
 |succ f ih=>
  unfold goC;split
  ·have:=ih (i+1) (cs++[(nxtC l cs j).1]) (nxtC l cs j).2 (fun c hc=>by
   simp only[List.mem_append,List.mem_singleton]at hc
   rcases hc with hc|rfl
   ·exact h c hc
   ·exact nxtC_ok hl h j)
   refine⟨this.1,?_⟩;have:=this.2;simp only[List.length_append,List.length_singleton]at this;omega
  exact⟨h,by show cs.length<=_;omega⟩
theorem callsD_ok{l:List Int}(hl:isBytes l)(j:Nat):(∀c∈(callsD l j).1,Ok6 c)∧(callsD l j).1.length<=39:=by
 have hb:=isBytes_getD hl j;have:=goC_ok hl (l.getD j 0%40).toNat 0 [] (j+1) (fun c hc=>by simp at hc);refine⟨this.1,?_⟩;have:=this.2;simp only[List.length_nil]at this;unfold callsD;omega
theorem ownsU_put{w:World}{B g n cp i:Nat}{l:List Int}(y:Int)(h:ownsU w B (.slice (some ⟨g,0,none⟩) n cp) l)(hi:i<l.length):ownsU (w.setCell ⟨g,i,none⟩ (.int .u64 y)) B (.slice (some ⟨g,0,none⟩) n cp) (l.set i y):=by
 obtain⟨h0,h|⟨g',cap,cur,e,hb,hg,hn,hm,hs,hx⟩⟩:=h
 ·cases h.1
 simp only[Value.slice.injEq,Option.some.injEq,Addr.mk.injEq]at e;obtain⟨⟨rfl,_,_⟩,rfl,rfl⟩:=e;refine⟨by simp,.inr ⟨g,cp,cur.setIfInBounds i (.int .u64 y),by rw[List.length_set],hb,heap_setCell_same w g i cur _ _ hg,by rw[List.length_set];exact hn,hm,by simpa using hs,?_⟩⟩;simp only[List.length_set];rw[List.map_set,<-hx,Array.toList_setIfInBounds,List.take_set]
theorem ownsP_rdX{w w1:World}{B R:Nat}{v:Value}{os:List (C×Value)}(h:ownsP w B v os)(hg:w.grownBy w1 (some R))(hR:R<B):ownsP w1 B v os:=
 World.ownsRow.kept h hg (by
  cases hv:v.ownBlock with
  |none=>exact .inl rfl
  |some q=>
   right
   have:=(h.lt q hv).1
   intro e
   simp at e
   omega)
theorem McS.rdX{w w1:World}{B R:Nat}{v:Value}{os:List (C×Value)}(h:McS w B v os)(hg:w.grownBy w1 (some R))(hR:R<B):McS w1 B v os:=
 ⟨ownsP_rdX h.row hg hR,fun p hp=>ownsU_rdX (h.own p hp) hg hR⟩
structure CsS(w W:World)(R:Nat)(a:Option Addr)(cap:Nat)(l:List Int)(j:Nat)(v:Value)(os:List (C×Value)):Prop where
 rd:Rd W R a cap l j
 mc:McS W w.heap.size v os
 gr:w.grownBy W (some R)
 lt:R<w.heap.size
theorem CsS.draw{w W W1:World}{R cap j j1:Nat}{a:Option Addr}{l:List Int}{v:Value}{os:List (C×Value)}(h:CsS w W R a cap l j v os)(hr:Rd W1 R a cap l j1)(hg:W.grownBy W1 (some R)):CsS w W1 R a cap l j1 v os:=
 ⟨hr,h.mc.rdX hg h.lt,rb_trans h.gr hg,h.lt⟩
theorem CsS.below{w W W1:World}{R cap j:Nat}{a:Option Addr}{l:List Int}{v:Value}{os:List (C×Value)}(h:CsS w W R a cap l j v os)(hb:Below W.heap.size W W1):CsS w W1 R a cap l j v os:=
 ⟨h.rd.below hb,h.mc.below hb,rb_trans h.gr (rb_below hb),h.lt⟩
theorem CsS.alloc{w W:World}{R cap j:Nat}{a:Option Addr}{l:List Int}{v:Value}{os:List (C×Value)}(h:CsS w W R a cap l j v os)(o:Obj):CsS w (W.alloc o) R a cap l j v os:=
 h.below ((Below.refl _ _).alloc (Nat.le_refl _) o)
theorem CsS.push{w W W1:World}{R cap j:Nat}{a:Option Addr}{l:List Int}{v v1:Value}{os:List (C×Value)}{p:C×Value}{o:Obj}(h:CsS w W R a cap l j v os)(hp:ownsU W w.heap.size p.2 p.1.args)(hg:(W.alloc o).grownBy W1 v.ownBlock)(hr:ownsP W1 w.heap.size v1 (os++[p])):CsS w W1 R a cap l j v1 (os++[p]):=by
 have hge:∀k,v.ownBlock=some k->w.heap.size<=k:=fun k hk=>(h.mc.row.lt k hk).1
 exact⟨(h.rd.alloc o).grown hg h.lt hge,h.mc.push hp hg hr,rb_own (rb_alloc h.gr o) hg hge,h.lt⟩
theorem CsS.set{w W:World}{R cap j D i:Nat}{a:Option Addr}{l:List Int}{v x:Value}{os:List (C×Value)}(h:CsS w W R a cap l j v os)(hD:w.heap.size<=D)(h1:v.ownBlock≠some D)(h2:∀p∈os,p.2.ownBlock≠some D):CsS w (W.setCell ⟨D,i,none⟩ x) R a cap l j v os:=by
 have hlt:=h.lt;refine⟨h.rd.setX D i (by omega) _,⟨ownsRow_setCell_other h.mc.row h1 _,fun p hp=>ownsRow_setCell_other (h.mc.own p hp) (h2 p hp) _⟩,rb_setX h.gr hD i _,hlt⟩
theorem left_any(R cap:Nat)(a:Option Addr)(l:List Int)(j:Nat)(w:World)(hR:Rd w R a cap l j):
 Calls Tryz.prog 39 #[.pointer (some ⟨R,0,none⟩)] w fun e w'=>e=.returned (.int .i64 ((l.length:Int)-((min j l.length:Nat):Int)))∧Rd w' R a cap l j∧w.grownBy w' (some R):=by
 have c0:w.cell? ⟨R,0,none⟩=some (.slice a l.length cap):=World.rowIs.cell hR.row (by omega);have c1:w.cell? ⟨R,1,none⟩=some (.int .i64 ((min j l.length:Nat):Int)):=World.rowIs.cell hR.row (by omega);have hlen:=hR.len;have hq:min j l.length<=l.length:=Nat.min_le_right _ _;have HR:Hid (∀n,Rd (w.drewN n) R a cap l j):=fun n=>hR.drewN n
 clear hR;generalize min j l.length=q at*;generalize l.length=n at*;go_enter Tryz.func39,Tryz.ntmps39;go_wp2_with fail;go_quiet(fail);go_wp2;go_ret;refine⟨ret_int ?_,HR.out _,rb_drewN (World.grownBy.refl _ _) _⟩;first|rfl|(rw[IntKind.wrap_i64];omega)
structure CpS(w W:World)(R:Nat)(a:Option Addr)(cap:Nat)(l:List Int)(j:Nat)(v:Value)(os:List (C×Value))(G:Nat)(x y:Int)(g cp:Nat)(args:List Int):Prop where
 cs:CsS w W R a cap l j v os
 box:Box3 W G (.int .u32 x) (.int .u32 y) (.slice (some ⟨g,0,none⟩) 6 cp)
 own:ownsU W w.heap.size (.slice (some ⟨g,0,none⟩) 6 cp) args
 hG:w.heap.size<=G
 hg:w.heap.size<=g
 ne:g≠G
 len:args.length=6
 ap1:v.ownBlock≠some g
 ap2:∀p∈os,p.2.ownBlock≠some g
section
variable{w W W1:World}{R cap j j1 G g cp:Nat}{a:Option Addr}{l args:List Int}{v:Value}{os:List (C×Value)}{x y:Int}
theorem CpS.draw(h:CpS w W R a cap l j v os G x y g cp args)(hr:Rd W1 R a cap l j1)(hg:W.grownBy W1 (some R)):CpS w W1 R a cap l j1 v os G x y g cp args:=
 have h1:=h.cs.lt
 have h2:=h.hG
 ⟨h.cs.draw hr hg,h.box.grownX hg (fun e=>by simp at e;omega),ownsU_rdX h.own hg h1,h.hG,h.hg,h.ne,h.len,h.ap1,h.ap2⟩
theorem CpS.below(h:CpS w W R a cap l j v os G x y g cp args)(hb:Below W.heap.size W W1):CpS w W1 R a cap l j v os G x y g cp args:=
 ⟨h.cs.below hb,h.box.keep hb,ownsU_below h.own hb,h.hG,h.hg,h.ne,h.len,h.ap1,h.ap2⟩
theorem CpS.drew(h:CpS w W R a cap l j v os G x y g cp args):CpS w W.drew R a cap l j v os G x y g cp args:=h.below (Below.refl _ _).drew
theorem CpS.put(h:CpS w W R a cap l j v os G x y g cp args){i:Nat}(hi:i<6)(u:Int):CpS w (W.setCell ⟨g,i,none⟩ (.int .u64 u)) R a cap l j v os G x y g cp (args.set i u):=
 ⟨h.cs.set h.hg h.ap1 h.ap2,h.box.setO (Ne.symm h.ne),ownsU_put u h.own (by rw[h.len];exact hi),h.hG,h.hg,h.ne,by rw[List.length_set];exact h.len,h.ap1,h.ap2⟩
theorem CpS.cell(h:CpS w W R a cap l j v os G x y g cp args){i:Nat}(hi:i<6):W.cell? ⟨g,i,none⟩=some (.int .u64 (args.getD i 0))∧W.frozen? ⟨g,i,none⟩=false:=by
 obtain⟨h0,h1|⟨g',cap,cur,e,hb,hg,hn,hm,hs,hx⟩⟩:=h.own
 ·cases h1.1
 simp only[Value.slice.injEq,Option.some.injEq,Addr.mk.injEq]at e;obtain⟨⟨rfl,_,_⟩,_,rfl⟩:=e;have hl:=h.len;have hlt:i<args.length:=by omega
 have hc:=h.own.cells rfl i (.int .u64 (args.getD i 0)) (by rw[List.getElem?_map,List.getElem?_eq_getElem hlt,List.getD_eq_getElem?_getD,List.getElem?_eq_getElem hlt];rfl);rw[add_at,Nat.zero_add]at hc;exact⟨hc,by simp[World.frozen?,hg]⟩
theorem CpS.new{W0:World}{ar nr:Int}(h:CsS w W0 R a cap l j v os)(hb:Below W0.heap.size W0 W)(ho:ownsU W W0.heap.size (.slice (some ⟨g,0,none⟩) 6 cp) args)(hl:args.length=6):
 CpS w (W.alloc (.cells #[.int .u32 ar,.int .u32 nr,.slice (some ⟨g,0,none⟩) 6 cp] 39)) R a cap l j v os W.heap.size ar nr g cp args:=by
 obtain⟨hg1,hg2⟩:=ho.lt g rfl;have h1:=h.gr.size;have h2:=hb.size;exact⟨(h.below hb).alloc _,Box3.new W _ _ _ _,ownsU_below (ownsU_mono ho h1) ((Below.refl _ _).alloc (Nat.le_refl _) _),by omega,by omega,by omega,hl,
  fun e=>by have:=(h.mc.row.lt g e).2;omega,fun p hp e=>by have:=((h.mc.own p hp).lt g e).2;omega⟩
end
end Go.Proofs.YtddemlfepjkgoaaGreat
