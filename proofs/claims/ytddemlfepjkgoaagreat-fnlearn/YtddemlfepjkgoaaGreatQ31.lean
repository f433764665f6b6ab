import Derived.Shelf.RegionOpenPlain
import Derived.Lib.SliceRun
import Derived.Test.YtddemlfepjkgoaaGreatQ30
set_option linter.all false
set_option maxRecDepth 200000
set_option maxHeartbeats 16000000
namespace Go.Proofs.YtddemlfepjkgoaaGreat.srtR
open Go.Shelf Go.RowKit Go.Lib Go.Sort
theorem infoEl:(Tryz.prog.info? 130).map (fun i=>(i.zero,i.size,i.bytes))=some (some (.agg #[.nilIface,.nilIface,.nilIface,.nilIface,.nilIface,.nilIface]),6,96):=by kernel_rfl
theorem once_any(b o n cap:Nat)(g:Nat->Rn)(w:World)(hs:SrcF encN 6 w b o n g)(h0:0<n)(hn:n<=1048576):
 Calls Tryz.prog 73 #[.slice (some ⟨b,o,none⟩) n cap,.func (.func 74) #[] #[]] w fun e w'=>∃v m g',e=.returned v∧m<=n∧OnceF 130 encN 6 w' w.heap.size v m g'∧DistG ordN (lstF g n) (lstF g' m)∧Below w.heap.size w w':=by
 obtain⟨i0,hi,hz0,hz1,hz2⟩:=info_parts infoEl
 have hbx:w.heap.size<(w.alloc (.cells #[.func (.func 74) #[] #[]] 133)).heap.size:=by simp
 have hxW:(w.alloc (.cells #[.func (.func 74) #[] #[]] 133)).cell? ⟨w.heap.size,0,none⟩=some (.func (.func 74) #[] #[]):=by simp
 have B0:Below w.heap.size w (w.alloc (.cells #[.func (.func 74) #[] #[]] 133)):=(Below.refl _ _).alloc (Nat.le_refl _) _
 have hs1:=hs.below B0
 have HCe:Hid (∀j u,((lstF g n).flatMap encN)[j]? =some u->(w.alloc (.cells #[.func (.func 74) #[] #[]] 133)).cell? ((⟨b,o,none⟩:Addr).add j)=some u):=by
  intro j u hj
  have hjl:j<n*6:=by
   have:=(List.getElem?_eq_some_iff.1 hj).1
   rw[flat_len encN_len]at this;exact this
  rw[flat_get encN_len g n j hjl]at hj
  rw[add_at,hs1.2 j hjl];exact hj
 have HOne:Hid (∀u∈(lstF g n).flatMap encN,u.oneCell'=true):=by
  intro u hu
  simp only[List.mem_flatMap]at hu
  obtain⟨p,_,hp⟩:=hu
  exact encN_one p u hp
 have HLen:Hid (((lstF g n).flatMap encN).length=n*6):=flat_len encN_len g n
 generalize hW:w.alloc (.cells #[.func (.func 74) #[] #[]] 133)=W at*
 have HRow:Hid (∀w1 v,w1.ownsRow W.heap.size 130 6 v n ((lstF g n).flatMap encN)->∃D N,v=.slice (some ⟨D,0,none⟩) n N∧W.heap.size<=D∧n<=N∧Row w1 D N n g):=fun w1 v h=>own_rowF encN_len h0 h
 have HSort:Hid (∀w1 D N,Below W.heap.size W w1->W.heap.size<=D->Row w1 D N n g->Calls Tryz.prog 103 #[.slice (some ⟨D,0,none⟩) n N,.func (.func 74) #[] #[]] w1 fun e w'=>e=.returned (.tuple #[])∧
  ∃g',Row w' D N n g'∧(∀c,c∈lstF g' n↔c∈lstF g n)∧(lstF g' n).Pairwise (fun a b=>ordN a b<=0)∧Below W.heap.size W w'):=
  fun w1 D N hB hD hr=>sort_any W.heap.size D N n N g W w1 (Nat.le_refl _) hB hD hr (by omega)
 have HComp:Hid (∀w1 D N g',Below W.heap.size W w1->W.heap.size<=D->n<=N->Row w1 D N n g'->Calls Tryz.prog 104 #[.slice (some ⟨D,0,none⟩) n N,.func (.func 105) #[] #[.pointer (some ⟨w.heap.size,0,none⟩)]] w1 fun e w'=>
  ∃m,e=.returned (.slice (some ⟨D,0,none⟩) m N)∧∃g3,Row w' D N m g3∧lstF g3 m=compG ordN (lstF g' n) n∧Below W.heap.size W w'):=
  fun w1 D N g' hB hD hN hr=>compact_any w.heap.size W.heap.size D N n N g' W w1 (Nat.le_refl _) hB hD hbx hxW hr hN (by omega)
 have HDist:Hid (∀g' g3 m,(∀c,c∈lstF g' n↔c∈lstF g n)->(lstF g' n).Pairwise (fun a b=>ordN a b<=0)->lstF g3 m=compG ordN (lstF g' n) n->DistG ordN (lstF g n) (lstF g3 m)∧m<=n):=by
  intro g' g3 m h1 h2 h3
  constructor
  ·rw[h3]
   have:=compG_dist linN h2
   rw[lstF_len]at this
   exact distG_perm this h1
  ·have:=compG_len (ord:=ordN) (lstF g' n) n (by rw[lstF_len];exact Nat.le_refl _)
   rw[<-h3,lstF_len]at this
   exact this
 have HB:Hid (∀w1,Below W.heap.size W w1->Below w.heap.size w w1∧(∀w2,Below W.heap.size W w2->w1.cell? ⟨w.heap.size,0,none⟩=some (.func (.func 74) #[] #[]))):=fun w1 h=>⟨B0.trans (h.mono B0.size),fun _ _=>(h.cell (p:=⟨w.heap.size,0,none⟩) hbx).trans hxW⟩
 have hwW:w.heap.size<=W.heap.size:=B0.size
 clear hs hs1 hxW B0 hbx
 generalize(lstF g n).flatMap encN=news at*
 go_enter Tryz.func73,Tryz.ntmps73
 go_wp2_with(at_builtin;refine wpList_append_own _ rfl (.const (.slice none 0 0)) (.tmp 6) 127 rfl W.heap.size 130 i0 _ 6 96 Tryz.underlying127 hi hz0 hz1 hz2 rfl (by decide) (.slice none 0 0) 0 [] rfl (World.ownsRow_nil _ _ _ _) ⟨b,o,none⟩ n cap news rfl ?c0 HCe.out HOne.out ?c3 ?c4 ?c5 ?_)
 case c0=>exact HLen.out
 case c3=>unfold maxLen;omega
 case c4=>omega
 case c5=>exact Nat.le_refl _
 intro v1 w1 ow gr _
 have B1:Below W.heap.size W w1:=(Below.refl _ _).grown gr (Nat.le_refl _) (fun q hq=>by cases hq)
 obtain⟨D,N,rfl,hD,hnN,hR1⟩:=HRow.out w1 v1 ow
 have hx1:=(HB.out w1 B1).2 W (Below.refl _ _)
 clear ow gr HCe HOne HLen HRow hi hz0 hz1 hz2 hW
 go_wp2_with fail
 refine(HSort.out w1 D N B1 hD hR1).mono ?_
 rintro e w2⟨rfl,g2,hR2,hmem,hpw,B2⟩
 clear HSort hR1 B1 hx1
 go_wp2_with fail
 refine(HComp.out w2 D N g2 B2 hD hnN hR2).mono ?_
 rintro e w3⟨m,rfl,g3,hR3,hl3,B3⟩
 obtain⟨hds,hmn⟩:=HDist.out g2 g3 m hmem hpw hl3
 have B4:=(HB.out w3 B3).1
 have hmN:=hR3.1
 clear HComp HDist hR2 hmem hpw B2 hl3 B3 HB
 go_wp2
 go_ret
 exact⟨_,m,g3,rfl,hmn,⟨D,N,rfl,by omega,hmN,hR3⟩,hds,B4⟩
end Go.Proofs.YtddemlfepjkgoaaGreat.srtR
namespace Go.Proofs.YtddemlfepjkgoaaGreat
open Go.Shelf Go.RowKit Go.Lib Go.Sort
open srtR
def without{α:Type}(g:Nat->α)(i:Nat)(j:Nat):α:=if j<i then g j else g (j+1)
theorem lst_without{α:Type}(g:Nat->α){n i:Nat}(hi:i<n):lstF (without g i) (n-1)=(lstF g n).eraseIdx i:=by
 apply List.ext_getElem
 ·rw[lstF_len,List.length_eraseIdx,lstF_len,if_pos hi]
 intro j h1 h2;rw[lstF_len]at h1;rw[lstF_get _ h1,List.getElem_eraseIdx];unfold without;split
 ·rw[lstF_get _ (by omega)]
 rw[lstF_get _ (by omega)]
structure Only(D:Nat)(w w':World):Prop where
 os:w'.os=w.os
 tape:w'.tape=w.tape
 output:w'.output=w.output
 size:w.heap.size<=w'.heap.size
 block:∀k,k≠D->k<w.heap.size->w'.heap[k]? =w.heap[k]?
theorem Only.refl(D:Nat)(w:World):Only D w w:=⟨rfl,rfl,rfl,Nat.le_refl _,fun _ _ _=>rfl⟩
theorem Only.trans{D:Nat}{a b c:World}(h:Only D a b)(h':Only D b c):Only D a c:=
 ⟨h'.os.trans h.os,h'.tape.trans h.tape,h'.output.trans h.output,Nat.le_trans h.size h'.size,fun k hk hl=>(h'.block k hk (Nat.lt_of_lt_of_le hl h.size)).trans (h.block k hk hl)⟩
theorem Only.drew{D:Nat}{a b:World}(h:Only D a b):Only D a b.drew:=h.trans ⟨rfl,rfl,rfl,Nat.le_refl _,fun _ _ _=>rfl⟩
theorem Only.setCell{D o:Nat}{a b:World}(h:Only D a b)(v:Value):Only D a (b.setCell ⟨D,o,none⟩ v):=
 h.trans ⟨rfl,rfl,rfl,by simp[World.setCell],fun k hk _=>by simp only[World.setCell,Array.getElem?_modify];rw[if_neg (fun e=>hk e.symm)]⟩
theorem Only.setCells{D:Nat}{a:World}:∀(vs:List Value)(o:Nat)(b:World),Only D a b->Only D a (b.setCells D o vs)
 |[],_,_,h=>h
 |v::r,o,b,h=>Only.setCells r (o+1) _ (h.setCell v)
theorem Only.below{B D:Nat}{W w w':World}(hBW:B<=W.heap.size)(hb:Below B W w)(hD:B<=D)(h:Only D w w'):Below B W w':=
 hb.trans ⟨h.os,h.tape,h.output,h.size,fun k hk=>h.block k (by omega) (by have:=hb.size;omega)⟩
theorem Only.cell{D:Nat}{w w':World}(h:Only D w w'){p:Addr}(hne:p.block≠D)(hl:p.block<w.heap.size):w'.cell? p=w.cell? p:=by
 unfold World.cell?;rw[h.block _ hne hl]
theorem Only.frozen{D:Nat}{w w':World}(h:Only D w w'){p:Addr}(hne:p.block≠D)(hl:p.block<w.heap.size):w'.frozen? p=w.frozen? p:=by
 unfold World.frozen?;rw[h.block _ hne hl]
theorem row_without{w:World}{D N n i:Nat}{g:Nat->Rn}(h:Row w D N n g)(hi:i<n):
 Row (w.setCells D (i*6) ((lstF (fun j=>g (i+1+j)) (n-(i+1))).flatMap encN)) D N (n-1) (without g i):=by
 obtain⟨hn,f,hr,hf⟩:=h;refine⟨by omega,_,row_setCells' _ (i*6) w f hr,fun j hj=> ?_⟩;rw[flat_len encN_len];obtain⟨q,r,hr',rfl⟩:∃q r,r<6∧j=q*6+r:=⟨j/6,j%6,Nat.mod_lt _ (by omega),by omega⟩;rw[cellsF_at _ q hr'];by_cases hq:q<i
 ·rw[if_neg (by omega),hf _ (by omega),cellsF_at _ q hr'];simp[without,hq]
 rw[if_pos (by omega)];have e:q*6+r-i*6=(q-i)*6+r:=by omega
 rw[e,List.getD_eq_getElem?_getD,flat_get encN_len _ _ _ (by omega),cellsF_at _ _ hr'];simp only[Option.getD_some,without];rw[if_neg hq,show i+1+(q-i)=q+1 by omega]
theorem delete_any(D N m cap i:Nat)(g:Nat->Rn)(w:World)(hr:Row w D N (m+1) g)(hi:i<m+1)(hc:m+1<=cap)(hm:m+1<=16777216)(hcN:cap<=N):
 Calls Tryz.prog 108 #[.slice (some ⟨D,0,none⟩) (m+1) cap,.int .i64 i,.int .i64 ((i:Int)+1)] w fun e w'=>e=.returned (.slice (some ⟨D,0,none⟩) m cap)∧Row w' D N m (without g i)∧Only D w w':=by
 obtain⟨i0,hi0,hz0,hz1,hz2⟩:=info_parts infoEl;obtain⟨news,hnews⟩:∃news,news=(lstF (fun j=>g (i+1+j)) (m-i)).flatMap encN:=⟨_,rfl⟩;have hlen:news.length=(m-i)*6:=by rw[hnews];exact flat_len encN_len _ _
 have hnN:m+1<=N:=hr.1;have hget:∀t,t<(m-i)*6->w.drew.cell? ⟨D,(i+1)*6+t,none⟩=news[t]? :=by
  intro t ht;rw[hnews,flat_get encN_len _ _ _ ht];obtain⟨q,r,hr',rfl⟩:∃q r,r<6∧t=q*6+r:=⟨t/6,t%6,Nat.mod_lt _ (by omega),by omega⟩;have:=RowF.cell hr (i:=i+1+q) (r:=r) (by omega) hr';rw[cellsF_at _ _ hr'];show w.cell? _=_;rw[show(i+1)*6+(q*6+r)=(i+1+q)*6+r by omega];exact this
 obtain⟨A,hA,hsrc⟩:∃A:Addr,(if cap=i+1 then some (⟨D,0,none⟩:Addr)else some ⟨D,(i+1)*6,none⟩)=some A∧Hid (∀t u,news[t]? =some u->w.drew.cell? (A.add t)=some u):=by
  by_cases h:cap=i+1
  ·refine⟨⟨D,0,none⟩,by simp[h],fun t u hu=> ?_⟩;have h0:news.length=0:=by rw[hlen];omega
   rw[List.length_eq_zero_iff.1 h0]at hu;simp at hu
  refine⟨⟨D,(i+1)*6,none⟩,by simp[h],fun t u hu=> ?_⟩;have ht:t<(m-i)*6:=by
   have:=(List.getElem?_eq_some_iff.1 hu).1;rwa [hlen]at this
  rw[Addr.add_lit,hget t ht];exact hu
 have s1:Hid (news.length=(m-i)*6):=hlen;have s2:Hid (∀u∈news,u.oneCell'=true):=by
  intro u hu;rw[hnews]at hu;simp only[List.mem_flatMap]at hu;obtain⟨p,_,hp⟩:=hu;exact encN_one p u hp
 have s3:Hid (∀t,t<news.length->(w.drew.cell? ⟨D,0+i*6+t,none⟩).isSome=true∧w.drew.frozen? ⟨D,0+i*6+t,none⟩=false):=by
  intro t ht;rw[hlen]at ht;obtain⟨v,h1,h2⟩:=RowF.open hr (0+i*6+t) (by omega);exact⟨by show(w.cell? _).isSome=true;rw[h1];rfl,h2⟩
 obtain⟨W1,hW1⟩:∃W1,W1=w.drew.setCells D (0+i*6) news:=⟨_,rfl⟩;have hR1:Row W1 D N m (without g i):=by
  rw[hW1,hnews,Nat.zero_add];have:=row_without (RowF.keep hr (Below.refl _ _).drew) hi;rw[show m+1-(i+1)=m-i by omega,show m+1-1=m by omega]at this;exact this
 have hB1:Only D w W1:=by
  rw[hW1];exact Only.setCells _ _ _ (Only.refl D w).drew
 have hop:∀j,j<N*6->∃v,W1.cell? ⟨D,j,none⟩=some v∧W1.frozen? ⟨D,j,none⟩=false:=fun j hj=>RowF.open hR1 j hj
 have hcl:∀ty,(Builtin.clear_ #[128] ty #[.slice (some ⟨D,m*6,none⟩) 1 (cap-m)]).run Tryz.prog W1=.ok (.tuple #[]) (W1.setCells D (m*6) (srtR.zeroK 1)):=fun ty=>by
  have h1:=run_clearK W1 D (m*6) 1 (cap-m) ty (by omega) (fun j hj=>hop (m*6+j) (by omega));have e1:Tryz.prog.underlying 128=Tryz.prog.underlying 127:=by kernel_rfl
  have e2:(Builtin.clear_ #[128] ty #[.slice (some ⟨D,m*6,none⟩) 1 (cap-m)]).run Tryz.prog W1=(Builtin.clear_ #[127] ty #[.slice (some ⟨D,m*6,none⟩) 1 (cap-m)]).run Tryz.prog W1:=by
   simp[Builtin.clear_,run_underlying Tryz.underlying128,run_underlying Tryz.underlying127]
  rw[e2];exact h1
 have HR2:Hid (Row (W1.setCells D (m*6) (srtR.zeroK 1)) D N m (without g i)):=RowF.clear hR1 (Nat.le_refl _) _;have HB2:Hid (Only D w (W1.setCells D (m*6) (srtR.zeroK 1))):=Only.setCells _ _ _ hB1;have hW:Hid (W1=w.drew.setCells D (0+i*6) news):=hW1;have hic:i<=cap:=by omega
 have hl2:Hid (i+(m-i)=m):=by unfold Hid;omega
 have hcm:m<cap:=by omega
 have hcm1:¬cap=m:=by omega
 have hcm2:¬m=cap:=by omega
 have hcm3:((m:Int))<=(cap:Int):=by omega
 have hcm4:((m:Int)+1)<=(cap:Int):=by omega
 have hjc:i+1<=cap:=by omega
 have hij:¬(i:Int)=(i:Int)+1:=by omega
 have mixed:Tryz.prog.follows Departure.mixedOrders=true:=by kernel_rfl
 have hb0:(0:Int)<=(i:Int)+1:=by omega
 have hb1:(i:Int)+1<=((m:Int)+1):=by omega
 have hb2:(i:Int)<=((m:Int)+1):=by omega
 clear hW1 hR1 hB1 hget hnews hlen hop hr;go_enter Tryz.func108,Tryz.ntmps108;go_wp2_with fail;go_region_law_o(refine step_append_room rfl (.tmp 22) (.tmp 25) 128 rfl 130 i0 6 Tryz.underlying128 hi0 hz1 D 0 i cap (by simp[Act.eval,Act.put]) A (m-i) (cap-(i+1)) news (by simp[Act.eval,Act.put]) s1.out hsrc.out s2.out (by omega) s3.out ?_;rw[<-hW.out]);rw[hl2.out];go_wp2_with(simp only[hcl]);go_ret;exact⟨rfl,HR2.out,HB2.out⟩
end Go.Proofs.YtddemlfepjkgoaaGreat
namespace Go.Proofs.YtddemlfepjkgoaaGreat
open Go.RowKit
open srtR
structure St(w:World)(L D N n:Nat)(g:Nat->Rn):Prop where
 c:w.cell? ⟨L,0,none⟩=some (.slice (some ⟨D,0,none⟩) n N)
 f:w.frozen? ⟨L,0,none⟩=false
 row:Row w D N n g
 ne:L≠D
theorem St.keep{w w1:World}{L D N n:Nat}{g:Nat->Rn}(h:St w L D N n g)(hb:Below w.heap.size w w1):St w1 L D N n g:=by
 have hl:=cell_ltK h.c;exact⟨(hb.cell (p:=⟨L,0,none⟩) hl).trans h.c,(hb.frozen (p:=⟨L,0,none⟩) hl).trans h.f,RowF.keep h.row hb,h.ne⟩
theorem frozen_setCell(w:World)(p q:Addr)(v:Value):(w.setCell p v).frozen? q=w.frozen? q:=by simp
theorem St.put{w:World}{L D N n m:Nat}{g':Nat->Rn}(hc:w.cell? ⟨L,0,none⟩=some (.slice (some ⟨D,0,none⟩) n N))(hf:w.frozen? ⟨L,0,none⟩=false)(hne:L≠D)(hr:Row w D N m g'):St (w.setCell ⟨L,0,none⟩ (.slice (some ⟨D,0,none⟩) m N)) L D N m g':=by
 refine⟨?_,by rw[frozen_setCell];exact hf,?_,hne⟩
 ·exact World.cell?_setCell_same _ _ _ hc
 obtain⟨hn,f,h1,h2⟩:=hr;exact⟨hn,f,h1.of_block (by simp only[World.setCell,Array.getElem?_modify];rw[if_neg hne]),h2⟩
def ls(g:Nat->Rn)(n:Nat):List Ru:=(lstF g n).map Subtype.val
theorem ls_len(g:Nat->Rn)(n:Nat):(ls g n).length=n:=by simp[ls,lstF_len]
theorem ls_at(g:Nat->Rn){n i:Nat}(h:i<n):at' (ls g n) i=(g i).val:=by
 simp[at',ls,lstF,List.getD_eq_getElem?_getD,h]
theorem map_eraseIdx{α β:Type}(f:α->β):∀(l:List α)(i:Nat),(l.eraseIdx i).map f=(l.map f).eraseIdx i
 |[],_=>by simp
 |a::l,0=>by simp
 |a::l,i+1=>by simp[map_eraseIdx f l i]
theorem ls_without(g:Nat->Rn){n i:Nat}(h:i<n):ls (without g i) (n-1)=(ls g n).eraseIdx i:=by
 rw[ls,lst_without g h,ls,map_eraseIdx]
def DropPost(B:Nat)(W:World)(L D N n:Nat)(g:Nat->Rn)(e:Ending)(w':World):Prop:=
 Below B W w'∧((NoW (ls g n)∧e=.returned (.bool false)∧St w' L D N n g)∨(∃i,FirstW (ls g n) i∧e=.returned (.bool true)∧St w' L D N (n-1) (without g i)))
theorem drop_any(B L D N n:Nat)(g:Nat->Rn)(W w:World)(hBW:B<=W.heap.size)(hb:Below B W w)(hD:B<=D)(hL:B<=L)(hs:St w L D N n g)(hn:n<=16777216):
 Calls Tryz.prog 75 #[.pointer (some ⟨L,0,none⟩)] w fun e w'=>DropPost B W L D N n g e w':=by
 have HS:Hid (∀wr,Below w.heap.size w wr->St wr L D N n g∧Below B W wr):=fun wr h=>⟨hs.keep h,belowB_step' hBW h hb⟩
 have HW:Hid (∀wr p q,Below w.heap.size w wr->p<n->q<n->Calls Tryz.prog 107 #[.pointer (some ⟨D,p*6,none⟩),.pointer (some ⟨D,q*6,none⟩)] wr fun e w'=>e=.returned (.bool (withinR (g p).val (g q).val))∧Below wr.heap.size wr w'):=
  fun wr p q h hp hq=>withinP_any _ _ _ _ _ _ wr (g p).property (g q).property (Row.ruAt (hs.keep h).row hp) (Row.ruAt (hs.keep h).row hq)
 have HD:Hid (∀wr i,Below w.heap.size w wr->i<n->Calls Tryz.prog 108 #[.slice (some ⟨D,0,none⟩) n N,.int .i64 i,.int .i64 ((i:Int)+1)] wr fun e w'=>e=.returned (.slice (some ⟨D,0,none⟩) (n-1) N)∧Row w' D N (n-1) (without g i)∧Below B W w'∧w'.cell? ⟨L,0,none⟩=some (.slice (some ⟨D,0,none⟩) n N)∧w'.frozen? ⟨L,0,none⟩=false):=by
  intro wr i h hi
  obtain⟨m,rfl⟩:∃m,n=m+1:=⟨n-1,by omega⟩
  have s:=hs.keep h
  have hl:=cell_ltK s.c
  refine(delete_any D N m N i g wr s.row hi s.row.1 hn (Nat.le_refl _)).mono ?_
  rintro e w'⟨rfl,hr,ho⟩
  exact⟨rfl,hr,ho.below hBW (belowB_step' hBW h hb) hD,(ho.cell (p:=⟨L,0,none⟩) s.ne hl).trans s.c,(ho.frozen (p:=⟨L,0,none⟩) s.ne hl).trans s.f⟩
 have HP0:Hid (NoWupto (ls g n) n->NoW (ls g n)):=fun h=>by unfold NoW;rw[ls_len];exact h
 have HUp:Hid (∀k,k<n->NoWupto (ls g n) k->(∀q,q<n->k≠q->withinR (g k).val (g q).val=false)->NoWupto (ls g n) (k+1)):=by
  intro k hk h h1 p hp q hq hne
  rw[ls_len]at hq
  by_cases e:p=k
  ·subst e
   rw[ls_at g hk,ls_at g hq];exact h1 q hq hne
  ·exact h p (by omega) q (by rw[ls_len];exact hq) hne
 have HF:Hid (∀k q,k<n->q<n->k≠q->NoWupto (ls g n) k->withinR (g k).val (g q).val=true->FirstW (ls g n) k):=by
  intro k q hk hq hne h h1
  exact⟨by rw[ls_len];exact hk,h,q,by rw[ls_len];exact hq,hne,by rw[ls_at g hk,ls_at g hq];exact h1⟩
 have hc:=hs.c
 have hne:=hs.ne
 clear hs hb
 go_enter Tryz.func75,Tryz.ntmps75
 go_wp2_with fail
 clear hc
 go_loopw [11](fun i wr=>∃k:Nat,k<=n∧i=.int .i64 k∧Hid (NoWupto (ls g n) k)∧Below w.heap.size w wr)(fun i _=>n-(intOf i).toNat)
 case atStart=>exact⟨0,by omega,rfl,fun p hp=>by omega,Below.refl _ _⟩
 case round=>
  obtain⟨k,hk,rfl,HJ,B1⟩:=hrel
  rename World=>W0
  by_cases hlt:k<n
  ·have hlt':(k:Int)<(n:Int):=by omega
   go_wp2_with fail
   go_loopw [16](fun i wr=>∃q:Nat,q<=n∧i=.int .i64 q∧Hid (∀j,j<q->k≠j->withinR (g k).val (g j).val=false)∧Below w.heap.size w wr)(fun i _=>n-(intOf i).toNat)
   case atStart=>exact⟨0,by omega,rfl,fun p hp=>by omega,B1⟩
   case round=>
    obtain⟨q,hq,rfl,HQ,B2⟩:=hrel
    rename World=>W1
    by_cases hlq:q<n
    ·have hlq':(q:Int)<(n:Int):=by omega
     by_cases hkq:k=q
     ·subst hkq
      have HQ2:Hid (∀j,j<k+1->k≠j->withinR (g k).val (g j).val=false):=fun j hj hne=>HQ.out j (by omega) hne
      have hg:((k:Int)!=(k:Int))=false:=by simp
      clear HS HW HD HP0 HUp HF HQ HJ
      go_wp2_with fail
      go_quiet(fail)
      have B3:=below_drewN B2 nq
      clear B2 B1
      generalize W1.drewN nq=W2 at*
      go_wp2
      go_roundw
      case rel=>exact⟨k+1,by omega,by go_num,HQ2,B3⟩
      case measure=>simp[intOf];omega
     ·have hg:((k:Int)!=(q:Int))=true:=by simp;omega
      have HWk:Hid (∀wr,Below w.heap.size w wr->Calls Tryz.prog 107 #[.pointer (some ⟨D,k*6,none⟩),.pointer (some ⟨D,q*6,none⟩)] wr fun e w'=>e=.returned (.bool (withinR (g k).val (g q).val))∧Below wr.heap.size wr w'):=fun wr h=>HW.out wr k q h hlt hlq
      have HFk:Hid (withinR (g k).val (g q).val=true->FirstW (ls g n) k):=HF.out k q hlt hlq hkq HJ.out
      have HQ2:Hid (withinR (g k).val (g q).val=false->∀j,j<q+1->k≠j->withinR (g k).val (g j).val=false):=fun h j hj hne=>by
       by_cases e:j=q
       ·subst e;exact h
       ·exact HQ.out j (by omega) hne
      have SK:Hid (∀wa wb,Below wa.heap.size wa wb->Below w.heap.size w wa->Below w.heap.size w wb):=fun wa wb hb s=>below_step hb s
      have hS0:=SK.out W1 W1.drew ((Below.refl _ _).drew) B2
      have HDk:Hid (∀wr,Below w.heap.size w wr->Calls Tryz.prog 108 #[.slice (some ⟨D,0,none⟩) n N,.int .i64 k,.int .i64 ((k:Int)+1)] wr fun e w'=>e=.returned (.slice (some ⟨D,0,none⟩) (n-1) N)∧Row w' D N (n-1) (without g k)∧Below B W w'∧w'.cell? ⟨L,0,none⟩=some (.slice (some ⟨D,0,none⟩) n N)∧w'.frozen? ⟨L,0,none⟩=false):=fun wr h=>HD.out wr k h hlt
      clear HS HW HD HP0 HUp HF HQ HJ B1 B2
      generalize withinR (g k).val (g q).val=Z at*
      go_wp2_with fail
      go_region_held3(fun w'=>Below w.heap.size w w')
       (assumption)
       (first|(go_at_call 107;refine(HWk.out _ (by assumption)).mono ?_;rintro _ w9⟨rfl,hb9⟩;have hS9:=SK.out _ _ hb9 (by assumption)))
      all_goals
       have B9:Below w.heap.size w w9:=hS9
       clear hS9 hb9 hS0 SK HWk
       cases Z with
       |false=>
        have HQ3:Hid (∀j,j<q+1->k≠j->withinR (g k).val (g j).val=false):=HQ2.out rfl
        clear HQ2 HFk HDk
        go_wp2
        go_roundw
        case rel=>exact⟨q+1,by omega,by go_num,HQ3,B9⟩
        case measure=>simp[intOf];omega
       |true=>
        have hF:Hid (FirstW (ls g n) k):=HFk.out rfl
        clear HQ2 HFk
        go_wp2_with fail
        refine(HDk.out _ B9).mono ?_
        rintro _ w10⟨rfl,hr10,hB10,hc10,hf10⟩
        have HP:Hid (DropPost B W L D N n g (.returned (.bool true)) (w10.setCell ⟨L,0,none⟩ (.slice (some ⟨D,0,none⟩) (n-1) N))):=⟨hB10.setCell (p:=⟨L,0,none⟩) hL _,.inr ⟨k,hF.out,rfl,St.put hc10 hf10 hne hr10⟩⟩
        clear HDk hr10 hB10 B9
        go_wp2
        go_ret
        exact HP.out
    ·have eq:q=n:=by omega
     have HU:Hid (NoWupto (ls g n) (k+1)):=HUp.out k hlt HJ.out (fun j hj hne=>HQ.out j (by omega) hne)
     have hlq':¬(q:Int)<(n:Int):=by omega
     clear HS HW HD HP0 HUp HF HQ HJ
     go_wp2
     go_roundw
     case rel=>exact⟨k+1,by omega,by go_num,HU,B2⟩
     case measure=>simp[intOf];omega
  ·have hkn:k=n:=by omega
   subst hkn
   obtain⟨s,hB⟩:=HS.out W0 B1
   have HP:Hid (DropPost B W L D N k g (.returned (.bool false)) W0):=⟨hB,.inl ⟨HP0.out HJ.out,rfl,s⟩⟩
   clear HS HW HD HP0 HUp HF HJ s hB
   go_wp2
   go_ret
   exact HP.out
end Go.Proofs.YtddemlfepjkgoaaGreat
