import Derived.Test.YtddemlfepjkgoaaGreatQ18
set_option linter.all false
set_option maxRecDepth 200000
set_option maxHeartbeats 16000000
namespace Go.Proofs.YtddemlfepjkgoaaGreat
open Go.RowKit
theorem isNaN32_any(x:Int)(w:World):Calls Tryz.prog 91 #[.int .u32 x] w fun e w'=>e=.returned (.bool false)∧w'=w:=by
 go_enter Tryz.func91,Tryz.ntmps91;go_wp2;go_ret;exact⟨rfl,rfl⟩
theorem isNaN64_any(x:Int)(w:World):Calls Tryz.prog 98 #[.int .u64 x] w fun e w'=>e=.returned (.bool false)∧w'=w:=by
 go_enter Tryz.func98,Tryz.ntmps98;go_wp2;go_ret;exact⟨rfl,rfl⟩
theorem ordI_neg{x y:Int}(h:x<y):ordI x y= -1:=by unfold ordI;rw[if_pos h]
theorem ordI_pos{x y:Int}(h:y<x):ordI x y=1:=by unfold ordI;rw[if_neg (by omega),if_pos h]
theorem ordI_same{x y:Int}(h:x=y):ordI x y=0:=by unfold ordI;rw[if_neg (by omega),if_neg (by omega)]
theorem cmp32_any(x y:Int)(w:World)(hx:0<=x∧x<=4294967295)(hy:0<=y∧y<=4294967295):Calls Tryz.prog 59 #[.int .u32 x,.int .u32 y] w fun e w'=>e=.returned (.int .i64 (ordI x y))∧w'=w:=by
 rcases Int.lt_trichotomy x y with h|h|h
 ·rw[ordI_neg h];go_enter Tryz.func59,Tryz.ntmps59;go_wp2_with(go_at_call 91;refine(isNaN32_any _ _).mono ?_;rintro e w'⟨rfl,rfl⟩);go_ret;exact⟨rfl,rfl⟩
 ·rw[ordI_same h];subst h;go_enter Tryz.func59,Tryz.ntmps59;go_wp2_with(go_at_call 91;refine(isNaN32_any _ _).mono ?_;rintro e w'⟨rfl,rfl⟩);go_ret;exact⟨rfl,rfl⟩
 rw[ordI_pos h];go_enter Tryz.func59,Tryz.ntmps59;go_wp2_with(go_at_call 91;refine(isNaN32_any _ _).mono ?_;rintro e w'⟨rfl,rfl⟩);go_ret;exact⟨rfl,rfl⟩
theorem cmp64_any(x y:Int)(w:World)(hx:isU64 x)(hy:isU64 y):Calls Tryz.prog 68 #[.int .u64 x,.int .u64 y] w fun e w'=>e=.returned (.int .i64 (ordI x y))∧w'=w:=by
 obtain⟨x0,x1⟩:=hx;obtain⟨y0,y1⟩:=hy;rcases Int.lt_trichotomy x y with h|h|h
 ·rw[ordI_neg h];go_enter Tryz.func68,Tryz.ntmps68;go_wp2_with(go_at_call 98;refine(isNaN64_any _ _).mono ?_;rintro e w'⟨rfl,rfl⟩);go_ret;exact⟨rfl,rfl⟩
 ·rw[ordI_same h];subst h;go_enter Tryz.func68,Tryz.ntmps68;go_wp2_with(go_at_call 98;refine(isNaN64_any _ _).mono ?_;rintro e w'⟨rfl,rfl⟩);go_ret;exact⟨rfl,rfl⟩
 rw[ordI_pos h];go_enter Tryz.func68,Tryz.ntmps68;go_wp2_with(go_at_call 98;refine(isNaN64_any _ _).mono ?_;rintro e w'⟨rfl,rfl⟩);go_ret;exact⟨rfl,rfl⟩
theorem ordL_step{l m:List Int}{i:Nat}(hl:i<l.length)(hm:i<m.length):ordL (l.drop i) (m.drop i)=if ordI (l.getD i 0) (m.getD i 0)=0 then ordL (l.drop (i+1)) (m.drop (i+1))else ordI (l.getD i 0) (m.getD i 0):=by
 rw[List.drop_eq_getElem_cons hl,List.drop_eq_getElem_cons hm,ordL];simp[List.getD_eq_getElem?_getD,hl,hm]
theorem ordL_out1{l m:List Int}{i:Nat}(hl:l.length<=i)(hm:i<m.length):ordL (l.drop i) (m.drop i)= -1:=by
 rw[List.drop_eq_nil_of_le hl,List.drop_eq_getElem_cons hm];rfl
theorem ordL_out2{l m:List Int}{i:Nat}(hl:i<l.length)(hm:m.length<=i):ordL (l.drop i) (m.drop i)=1:=by
 rw[List.drop_eq_nil_of_le hm,List.drop_eq_getElem_cons hl];rfl
theorem ordL_out{l m:List Int}{i:Nat}(hl:l.length<=i)(hm:m.length<=i):ordL (l.drop i) (m.drop i)=0:=by
 rw[List.drop_eq_nil_of_le hm,List.drop_eq_nil_of_le hl];rfl
theorem USrc.at{w:World}{a:Option Addr}{l:List Int}(h:USrc w a l)(i:Nat)(hi:i<l.length):∃b o,a=some ⟨b,o,none⟩∧b<w.heap.size∧w.cell? ⟨b,o+i,none⟩=some (.int .u64 (l.getD i 0)):=by
 rcases h with rfl|⟨b,o,ha,hb,hp⟩
 ·simp at hi
 exact⟨b,o,ha,hb,hp i hi⟩
theorem isU64_getD{l:List Int}(h:∀v∈l,isU64 v)(i:Nat):isU64 (l.getD i 0):=by
 by_cases hi:i<l.length
 ·exact h _ (by rw[List.getD_eq_getElem?_getD,List.getElem?_eq_getElem hi];exact List.getElem_mem hi)
 rw[List.getD_eq_getElem?_getD,List.getElem?_eq_none (by omega)];exact⟨by decide,by decide⟩
theorem slicesCompare_any(a a':Option Addr)(cap cap':Nat)(l m:List Int)(w:World)(h:USrc w a l)(h':USrc w a' m)(hl:∀v∈l,isU64 v)(hm:∀v∈m,isU64 v)(hn:l.length<=16777216)(hn':m.length<=16777216):
 Calls Tryz.prog 63 #[.slice a l.length cap,.slice a' m.length cap'] w fun e w'=>e=.returned (.int .i64 (ordL l m))∧w'=w:=by
 have H1:Hid (∀i,i<l.length->∃b o,a=some ⟨b,o,none⟩∧b<w.heap.size∧w.cell? ⟨b,o+i,none⟩=some (.int .u64 (l.getD i 0))):=fun i hi=>h.at i hi
 have H2:Hid (∀i,i<m.length->∃b o,a'=some ⟨b,o,none⟩∧b<w.heap.size∧w.cell? ⟨b,o+i,none⟩=some (.int .u64 (m.getD i 0))):=fun i hi=>h'.at i hi
 have H3:Hid (∀i,isU64 (l.getD i 0)∧isU64 (m.getD i 0)):=fun i=>⟨isU64_getD hl i,isU64_getD hm i⟩
 have HS:Hid (∀i,i<l.length->i<m.length->ordL (l.drop i) (m.drop i)=if ordI (l.getD i 0) (m.getD i 0)=0 then ordL (l.drop (i+1)) (m.drop (i+1))else ordI (l.getD i 0) (m.getD i 0)):=fun i h1 h2=>ordL_step h1 h2
 have HO1:Hid (∀i,l.length<=i->i<m.length->ordL (l.drop i) (m.drop i)= -1):=fun i h1 h2=>ordL_out1 h1 h2
 have HO2:Hid (∀i,i<l.length->m.length<=i->ordL (l.drop i) (m.drop i)=1):=fun i h1 h2=>ordL_out2 h1 h2
 have HO:Hid (∀i,l.length<=i->m.length<=i->ordL (l.drop i) (m.drop i)=0):=fun i h1 h2=>ordL_out h1 h2
 have H0:Hid (ordL l m=ordL (l.drop 0) (m.drop 0)):=rfl;obtain⟨O,hO⟩:∃O:Nat->Int,∀i,ordL (l.drop i) (m.drop i)=O i:=⟨_,fun _=>rfl⟩;simp only[hO]at HS HO1 HO2 HO H0;generalize ordL l m=R at*;clear h h' hl hm hO;generalize l.length=n at*;generalize m.length=k at*;go_enter Tryz.func63,Tryz.ntmps63;go_wp2_with fail;go_loopw [11](fun i wr=>∃j:Nat,j<=n∧j<=k∧i=.int .i64 j∧wr=w∧Hid (R=O j))(fun i _=>n-(intOf i).toNat)
 case atStart=>exact⟨0,by omega,by omega,rfl,rfl,H0⟩
 case round=>
  obtain⟨j,hj,hjk,rfl,rfl,HR⟩:=hrel;by_cases h1:j<n
  ·obtain⟨b,o,ha,hb,c1⟩:=H1.out j h1;subst ha;by_cases h2:j<k
   ·obtain⟨b',o',ha',hb',c2⟩:=H2.out j h2;subst ha';have HC:Hid (∀w,Calls Tryz.prog 68 #[.int .u64 (l.getD j 0),.int .u64 (m.getD j 0)] w fun e w'=>e=.returned (.int .i64 (ordI (l.getD j 0) (m.getD j 0)))∧w'=w):=fun w=>cmp64_any _ _ w (H3.out j).1 (H3.out j).2
    have HS1:Hid _:=HS.out j h1 h2;clear H1 H2 H3 HS HO1 HO2 HO H0;generalize ordI (l.getD j 0) (m.getD j 0)=q at*;generalize l.getD j 0=x at*;generalize m.getD j 0=y at*;by_cases hq:q=0
    ·have e1:=HS1.out;rw[if_pos hq]at e1;have HR2:Hid (R=O (j+1)):=HR.out.trans e1;clear HS1 e1 HR;subst hq;go_wp2_with fail;refine(HC.out _).mono ?_;rintro e w1⟨rfl,rfl⟩;go_wp2;go_roundw
     case rel=>exact⟨j+1,by omega,by omega,by go_num,trivial,HR2⟩
     case measure=>simp[intOf];omega
    have e1:=HS1.out;rw[if_neg hq]at e1;have HR2:Hid (R=q):=HR.out.trans e1;have hq':(q !=0)=true:=by simpa using hq
    clear HS1 e1 HR;go_wp2_with fail;refine(HC.out _).mono ?_;rintro e w1⟨rfl,rfl⟩;go_wp2;go_ret;exact⟨ret_int HR2.out.symm,rfl⟩
   have e1:=HR.out.trans (HO2.out j h1 (by omega));clear H1 H2 H3 HS HO1 HO2 HO H0 HR;generalize l.getD j 0=x at*;go_wp2;go_ret;exact⟨ret_int e1.symm,rfl⟩
  by_cases h2:j<k
  ·have e1:=HR.out.trans (HO1.out j (by omega) h2);clear H1 H2 H3 HS HO1 HO2 HO H0 HR;have h3:(n:Int)<k:=by omega
   go_wp2;go_ret;exact⟨ret_int e1.symm,rfl⟩
  have e1:=HR.out.trans (HO.out j (by omega) (by omega));clear H1 H2 H3 HS HO1 HO2 HO H0 HR;have h3:¬(n:Int)<k:=by omega
  have E1:Hid (R=0):=e1;clear e1;go_wp2;go_ret;exact⟨ret_int E1.out.symm,rfl⟩
end Go.Proofs.YtddemlfepjkgoaaGreat
namespace Go.Proofs.YtddemlfepjkgoaaGreat
open Go.RowKit Go.Deep
set_option linter.unusedSimpArgs false
theorem less64_any(x y:Int)(w:World):Calls Tryz.prog 133 #[.int .u64 x,.int .u64 y] w fun e w'=>e=.returned (.bool (decide (x<y)))∧w'=w:=by
 go_enter Tryz.func133,Tryz.ntmps133;go_wp2_with(go_at_call 98;refine(isNaN64_any _ _).mono ?_;rintro e w'⟨rfl,rfl⟩);go_ret;exact⟨rfl,rfl⟩
theorem binSearch_any(b o n cap q:Nat)(fx:Nat->Int)(w:World)(hc:∀j,j<n->w.cell? ⟨b,o+j,none⟩=some (.int .u64 (fx j)))(hq:q<n)(hn:n<=1000)(ha:∀i j,i<j->j<n->fx i<fx j):
 Calls Tryz.prog 99 #[.slice (some ⟨b,o,none⟩) n cap,.int .u64 (fx q)] w fun e w'=>e=.returned (.tuple #[.int .i64 q,.bool true])∧w'=w:=by
 have HA:Hid (∀i,i<n->(fx i<fx q↔i<q)):=fun i hi=>by
  rcases Nat.lt_trichotomy i q with h|h|h
  ·exact⟨fun _=>h,fun _=>ha i q h hq⟩
  ·subst h;omega
  have:=ha q i h hi;omega
 clear ha;go_enter Tryz.func99,Tryz.ntmps99;go_wp2_with fail;go_loopw [7,8](fun s7 s8 wr=>∃lo hi:Nat,s7=.int .i64 lo∧s8=.int .i64 hi∧lo<=q∧q<=hi∧hi<=n∧wr=w)(fun s7 s8 _=>(intOf s8-intOf s7).toNat)
 case atStart=>exact⟨0,n,rfl,rfl,by omega,by omega,by omega,rfl⟩
 case round=>
  obtain⟨lo,hi,rfl,rfl,h1,h2,h3,rfl⟩:=hrel;by_cases hlt:lo<hi
  ·have hlt':(lo:Int)<(hi:Int):=by omega
   have hh:(lo+hi)/2<n:=by omega
   have cm:=hc ((lo+hi)/2) hh;have hm:=HA.out _ hh;clear hc HA;generalize hy:fx ((lo+hi)/2)=y at*;generalize fx q=x at*;clear hy;by_cases hyx:y<x
   ·have hq2:=hm.1 hyx;go_wp2_with(go_at_call 133;refine(less64_any _ _ _).mono ?_;rintro e w'⟨rfl,rfl⟩);go_roundw
    case rel=>exact⟨(lo+hi)/2+1,hi,by rw[show((lo:Int)+(hi:Int))/2+1=(((lo+hi)/2+1:Nat):Int)by omega],rfl,by omega,h2,h3,trivial⟩
    case measure=>simp[intOf];omega
   have hq2:¬(lo+hi)/2<q:=fun h=>hyx (hm.2 h)
   go_wp2_with(go_at_call 133;refine(less64_any _ _ _).mono ?_;rintro e w'⟨rfl,rfl⟩);go_roundw
   case rel=>exact⟨lo,(lo+hi)/2,rfl,by rw[show((lo:Int)+(hi:Int))/2=(((lo+hi)/2:Nat):Int)by omega],by omega,by omega,by omega,trivial⟩
   case measure=>simp[intOf];omega
  obtain rfl:lo=q:=by omega
  obtain rfl:hi=lo:=by omega
  have hlt':¬(hi:Int)<(hi:Int):=by omega
  have hq':(hi:Int)<(n:Int):=by omega
  have c0:=hc hi hq;clear hc HA;go_wp2_with fail;exact bodyPost_ret (v:=.tuple #[.int .i64 hi,.bool true]) (by simp[results,Tryz.results99,go_sem]) rfl ⟨rfl,rfl⟩
set_option linter.unusedSimpArgs false
theorem flat_at{α:Type}(f:α->List Value)(k:Nat)(hf:∀x,(f x).length=k):∀(l:List α)(i q:Nat)(hi:i<l.length),q<k->(l.flatMap f)[i*k+q]? =(f l[i])[q]?
 |[],i,q,hi,_=>by simp at hi
 |x::r,0,q,hi,hq=>by
  rw[List.flatMap_cons,Nat.zero_mul,Nat.zero_add,List.getElem?_append_left (by rw[hf];exact hq)];rfl
 |x::r,i+1,q,hi,hq=>by
  rw[List.flatMap_cons,List.getElem?_append_right (by rw[hf,Nat.add_mul];omega),hf];rw[show(i+1)*k+q-k=i*k+q by rw[Nat.add_mul];omega];exact flat_at f k hf r i q (by simpa using hi) hq
theorem xs6_len(x:La):(xs6 x).length=6:=rfl
theorem xs6_at(x:La){q:Nat}(h:q<6):(xs6 x)[q]? =some (.int .u64 (x.getD q 0)):=by
 match q,h with
 |0,_=>rfl|1,_=>rfl|2,_=>rfl|3,_=>rfl|4,_=>rfl|5,_=>rfl
theorem row6_src{w:World}{lo:Nat}{v:Value}{ls:List La}(h:w.ownsRow lo 71 6 v ls.length (ls.flatMap xs6)):∃a cap,v=.slice a ls.length cap∧LSrc 6 PA w a ls:=by
 obtain⟨h0,⟨rfl,h1⟩|⟨g,cap,cur,rfl,h2,h3,h4,h5,h6,h7⟩⟩:=h
 ·exact⟨none,0,by rw[h1],.inl (List.length_eq_zero_iff.1 h1)⟩
 refine⟨_,cap,rfl,.inr ⟨g,0,rfl,(Array.getElem?_eq_some_iff.1 h3).1,fun i hi q hq=> ?_⟩⟩;rw[cell_of_row w g _ cur _ _ h3,Nat.zero_add,<-Array.getElem?_toList,<-List.getElem?_take_of_lt (show i*6+q<ls.length*6 by omega),h7,flat_at xs6 6 xs6_len ls i q hi hq];exact xs6_at _ hq
theorem withV_next{t:List La}{k:Nat}(h:k<t.length)(j:Nat)(v:Int):withV (t.take (k+1)) j v=withV (t.take k) j v++(if(t.getD k []).getD j 0=v then [t.getD k []]else []):=by
 have e:t.getD k []=t[k]:=by rw[List.getD_eq_getElem?_getD,List.getElem?_eq_getElem h];rfl
 unfold withV;rw[e,List.take_add_one,List.filter_append,List.getElem?_eq_getElem h];simp only[Option.toList_some];by_cases hv:(t[k]).getD j 0=v
 ·rw[if_pos hv,List.filter_cons_of_pos (by simpa using hv)];rfl
 rw[if_neg hv,List.filter_cons_of_neg (by simpa using hv)];rfl
theorem split_step{t:List La}{d:List Int}{j k q:Nat}{x:La}(hk:k<t.length)(hx:t.getD k []=x)(hq:q<d.length)(he:d[q]=x.getD j 0)(hn:d.Nodup):(d.map fun v=>withV (t.take k) j v).set q (withV (t.take k) j d[q]++[x])=d.map fun v=>withV (t.take (k+1)) j v:=by
 apply List.ext_getElem?;intro i;rw[List.getElem?_set,List.getElem?_map,List.getElem?_map];split
 ·rename_i e;subst e;rw[List.length_map,if_pos hq,List.getElem?_eq_getElem hq,Option.map_some,withV_next hk,hx,if_pos he.symm]
 rename_i hne;by_cases hi:i<d.length
 ·rw[List.getElem?_eq_getElem hi,Option.map_some,Option.map_some,withV_next hk,hx,if_neg,List.append_nil];intro e;exact hne ((List.getElem_inj hn).1 (he.trans e))
 rw[List.getElem?_eq_none (by omega)];rfl
structure SplS(w W:World)(vs:List (List La×Value)):Prop where
 blk:W.heap[w.heap.size]? =some (.cells (vs.map Prod.snd).toArray 66 (0,0))
 rows:Rows6 W (w.heap.size+1) vs
 b:Below w.heap.size w W
theorem SplS.lt{w W:World}{vs:List (List La×Value)}(h:SplS w W vs):w.heap.size<W.heap.size:=(Array.getElem?_eq_some_iff.1 h.blk).1
theorem SplS.keep{w W W':World}{vs:List (List La×Value)}(h:SplS w W vs)(hb:Below W.heap.size W W'):SplS w W' vs:=
 ⟨(hb.block _ h.lt).trans h.blk,h.rows.keep fun q _ hq=>hb.block q hq,below_step hb h.b⟩
theorem SplS.cell{w W:World}{vs:List (List La×Value)}(h:SplS w W vs){q:Nat}{p:List La×Value}(hq:vs[q]? =some p):W.cell? ⟨w.heap.size,q,none⟩=some p.2∧W.frozen? ⟨w.heap.size,q,none⟩=false:=by
 refine⟨?_,?_⟩
 ·rw[cell_of_row W _ _ _ _ _ h.blk];simp[hq]
 simp[World.frozen?,h.blk]
theorem heap_setCell_at{W:World}{D q:Nat}{cs:Array Value}{t:TypeId}{f:Nat×Nat}(v:Value)(h:W.heap[D]? =some (.cells cs t f)):(W.setCell ⟨D,q,none⟩ v).heap[D]? =some (.cells (cs.setIfInBounds q v) t f):=by
 simp only[World.setCell,Array.getElem?_modify];rw[if_pos trivial,h];rfl
theorem SplS.put{w W wa w1:World}{vs:List (List La×Value)}{q:Nat}{ls:List La}{x:La}{v v':Value}(h:SplS w W vs)(hq:vs[q]? =some (ls,v))(ha:Below W.heap.size W wa)(hg:wa.grownBy w1 v.ownBlock)
 (ho:w1.ownsRow (w.heap.size+1) 71 6 v' (ls.length+1) (ls.flatMap xs6++xs6 x))(hat:v'.ownBlock=v.ownBlock∨∃g,v'.ownBlock=some g∧wa.heap.size<=g):
 (w1.cell? ⟨w.heap.size,q,none⟩=some v∧w1.frozen? ⟨w.heap.size,q,none⟩=false)∧SplS w (w1.setCell ⟨w.heap.size,q,none⟩ v') (vs.set q (ls++[x],v')):=by
 have hlt:=h.lt
 have hown:=h.rows.own (ls,v) (List.mem_of_getElem? hq)
 have hne:some w.heap.size≠v.ownBlock:=fun e=>by have:=(hown.lt _ e.symm).1;omega
 have hblk:w1.heap[w.heap.size]? =some (.cells (vs.map Prod.snd).toArray 66 (0,0)):=by
  rw[hg.block _ (by have:=ha.size;omega) hne,ha.block _ hlt];exact h.blk
 have hB1:Below w.heap.size w w1:=(below_step ha h.b).grown hg (by have:=ha.size;omega) (fun t e=>by have:=(hown.lt t e).1;omega)
 refine⟨⟨by rw[cell_of_row w1 _ _ _ _ _ hblk];simp[hq],by simp[World.frozen?,hblk]⟩,⟨?_,?_,hB1.setCell (p:=⟨w.heap.size,q,none⟩) (Nat.le_refl _) _⟩⟩
 ·rw[heap_setCell_at v' hblk,List.map_set];simp
 ·have:=h.rows.put (q:=q) (ls':=ls++[x]) (v':=v') hq ha.size (fun b _ hb=>ha.block b hb) hg (by simpa using ho) hat
  exact this.keep fun b hb _=>Below.heap_setCell _ _ _ _ (show b≠w.heap.size by omega)
theorem SplS.src{w W:World}{vs:List (List La×Value)}{gs:List (List La)}(h:SplS w W vs)(hg:vs.map Prod.fst=gs):LSrc 1 PG W (some ⟨w.heap.size,0,none⟩) gs:=by
 subst hg;refine .inr ⟨_,_,rfl,h.lt,fun i hi=> ?_⟩;rw[List.length_map]at hi;have hi':vs[i]? =some vs[i]:=List.getElem?_eq_getElem hi;obtain⟨a,cap,e,hs⟩:=row6_src (h.rows.own _ (List.getElem_mem hi));have:=(h.cell hi').1;rw[e]at this;rw[List.getElem_map,Nat.zero_add,Nat.mul_one];exact⟨a,cap,this,hs⟩
theorem split_start(w:World)(m:Nat):SplS w (w.alloc (.cells (madeCells #[.slice none 0 0] m) 66)) (List.replicate m ([],.slice none 0 0)):=by
 refine⟨?_,⟨fun p hp=> ?_,fun i j p q _ hi hj g hg=> ?_⟩,(Below.refl _ _).alloc (Nat.le_refl _) _⟩
 ·rw[heap_alloc_new];have e:madeCells #[.slice none 0 0] m=(List.map Prod.snd (List.replicate m (([],.slice none 0 0):List La×Value))).toArray:=by
   apply Array.ext_getElem?;intro i;by_cases hi:i<m
   ·simp[madeCells,hi,List.getElem?_replicate,Nat.mod_one]
   rw[Array.getElem?_eq_none (by rw[size_madeCells];omega),Array.getElem?_eq_none (by simp;omega)]
  rw[e]
 ·obtain⟨_,rfl⟩:=List.mem_replicate.1 hp;exact World.ownsRow_nil _ _ _ _
 rw[List.getElem?_replicate]at hi;split at hi
 ·cases hi;cases hg
 cases hi
theorem infoLs:(Tryz.prog.info? 66).map (fun i=>(i.zero,i.size,i.bytes))=some (some (.slice none 0 0),1,24):=by kernel_rfl
theorem splitLists_any(t:List La)(a:Option Addr)(cap j:Nat)(d:List Int)(ad:Option Addr)(capd:Nat)(w:World)(hs:LSrc 6 PA w a t)(hd:USrc w ad d)(hj:j<6)(hn:t.length<=1000)(hm:d.length<=1000)(h0:0<d.length)(hasc:∀p q,p<q->q<d.length->d.getD p 0<d.getD q 0)(hmem:∀x∈t,x.getD j 0∈d):
 Calls Tryz.prog 69 #[.slice a t.length cap,.int .i64 (j:Int),.slice ad d.length capd] w (GrpP (d.map fun v=>withV t j v) w):=by
 obtain⟨i0,hi,hz0,hz1,hz2⟩:=info_parts infoAL;obtain⟨i1,hi1,hy0,hy1,hy2⟩:=info_parts infoLs;obtain⟨bd,od,rfl,hcd⟩:=usrc_at hd h0;have hnd:d.Nodup:=by
  rw[List.nodup_iff_pairwise_ne,List.pairwise_iff_getElem];intro p q hp hq hpq e;have:=hasc p q hpq hq;rw[List.getD_eq_getElem?_getD,List.getD_eq_getElem?_getD,List.getElem?_eq_getElem hp,List.getElem?_eq_getElem hq]at this;simp at this;omega
 have hmk:(Instr.makeSlice 75 (.int .i64 (d.length:Int)) (.int .i64 (d.length:Int))).run Tryz.prog w=
  .ok (.slice (some ⟨w.heap.size,0,none⟩) d.length d.length) (w.alloc (.cells (madeCells #[.slice none 0 0] d.length) 66)):=by
  have h:=run_make (P:=Tryz.prog) w 75 66 i1 _ Tryz.underlying75 hi1 hy0 .i64 .i64 (d.length:Int) (d.length:Int) (by omega) (by omega) (by rw[hy2];omega) (by omega);simpa[hy1,Value.cells]using h
 have S0:=split_start w d.length;have H0:Hid ((List.replicate d.length (([],.slice none 0 0):List La×Value)).map Prod.fst=d.map fun v=>withV (t.take 0) j v):=by
  show _=_;apply List.ext_getElem?;intro i;by_cases hi:i<d.length
  ·simp[hi,List.getElem?_replicate,withV]
  simp[List.getElem?_eq_none (Nat.le_of_not_lt hi),List.getElem?_replicate,hi]
 have HB:Hid (∀wr,Below w.heap.size w wr->∀i,i<t.length->∃b o q,a=some ⟨b,o,none⟩∧PA wr b (o+i*6) (t.getD i [])∧q<d.length∧d.getD q 0=(t.getD i []).getD j 0∧Calls Tryz.prog 99 #[.slice (some ⟨bd,od,none⟩) d.length capd,.int .u64 ((t.getD i []).getD j 0)] wr fun e w'=>e=.returned (.tuple #[.int .i64 q,.bool true])∧w'=wr):=fun wr hB i hi=>by
  obtain⟨b,o,h1,_,h2⟩:=(hs.below PA.stays hB).at hi [];have hxm:t.getD i []∈t:=by rw[List.getD_eq_getElem?_getD,List.getElem?_eq_getElem hi];exact List.getElem_mem hi
  obtain⟨q,hq,e⟩:=List.mem_iff_getElem.1 (hmem _ hxm);have e':d.getD q 0=(t.getD i []).getD j 0:=by rw[List.getD_eq_getElem?_getD,List.getElem?_eq_getElem hq];exact e
  refine⟨b,o,q,h1,h2,hq,e',?_⟩;obtain⟨b2,o2,e2,hc2⟩:=usrc_at (hd.below hB) h0
  cases e2;rw[<-e'];exact binSearch_any bd od d.length capd q (fun p=>d.getD p 0) wr hc2 hq hm hasc
 have HSt:Hid (∀k q x,k<t.length->t.getD k []=x->q<d.length->d.getD q 0=x.getD j 0->∀vs:List (List La×Value),vs.map Prod.fst=(d.map fun v=>withV (t.take k) j v)->(∃ls v,vs[q]? =some (ls,v)∧ls.length<=1000∧∀v',(vs.set q (ls++[x],v')).map Prod.fst=d.map fun v=>withV (t.take (k+1)) j v)):=fun k q x hk hx hq he vs hv=>by
  have hl:vs.length=d.length:=by have:=congrArg List.length hv;simpa using this
  have hq':vs[q]? =some vs[q]:=List.getElem?_eq_getElem (by omega);have e1:(vs.map Prod.fst)[q]? =some (withV (t.take k) j d[q]):=by rw[hv,List.getElem?_map,List.getElem?_eq_getElem hq];rfl
  rw[List.getElem?_map,hq']at e1;simp at e1;refine⟨vs[q].1,vs[q].2,hq',?_,fun v'=> ?_⟩
  ·rw[e1];have h1:(withV (t.take k) j d[q]).length<=(t.take k).length:=List.length_filter_le _ _;rw[List.length_take]at h1;omega
  rw[List.map_set,hv,e1];exact split_step hk hx hq (by rw[List.getD_eq_getElem?_getD,List.getElem?_eq_getElem hq]at he;exact he) hnd
 have HF:Hid (∀W vs,SplS w W vs->vs.map Prod.fst=(d.map fun v=>withV (t.take t.length) j v)->GrpP (d.map fun v=>withV t j v) w (.returned (.slice (some ⟨w.heap.size,0,none⟩) d.length d.length)) W):=fun W vs h1 h2=>by
  rw[List.take_length]at h2;exact⟨_,_,by rw[List.length_map],h1.src h2,h1.b⟩
 obtain⟨fx,hfx⟩:∃fx:Nat->La,∀i,t.getD i []=fx i:=⟨_,fun _=>rfl⟩;simp only[hfx]at HB HSt;have HSt':Hid (∀k q,k<t.length->q<d.length->d.getD q 0=(fx k).getD j 0->∀vs:List (List La×Value),vs.map Prod.fst=(d.map fun v=>withV (t.take k) j v)->(∃ls v,vs[q]? =some (ls,v)∧ls.length<=1000∧∀v',(vs.set q (ls++[fx k],v')).map Prod.fst=d.map fun v=>withV (t.take (k+1)) j v)):=fun k q h1 h2 h3 vs h4=>HSt.out k q (fx k) h1 rfl h2 h3 vs h4
 clear HSt hfx hs hd hcd hasc hmem hnd;obtain⟨G,hG⟩:∃G:Nat->List (List La),∀k,(d.map fun v=>withV (t.take k) j v)=G k:=⟨_,fun _=>rfl⟩;simp only[hG]at HF HSt' H0;clear hG;generalize t.length=n at*;generalize d.length=m at*;have hj6:(j:Int)<6:=by omega
 go_enter Tryz.func69,Tryz.ntmps69;go_wp2_with fail;generalize w.alloc (.cells (madeCells #[.slice none 0 0] m) 66)=W0 at*;go_loopw [17](fun i wr=>∃(k:Nat)(vs:List (List La×Value)),k<=n∧i=.int .i64 k∧SplS w wr vs∧Hid (vs.map Prod.fst=G k))(fun i _=>n-(intOf i).toNat)
 case atStart=>exact⟨0,_,by omega,rfl,S0,H0⟩
 case round=>
  clear S0 H0;obtain⟨k,vs,hk,rfl,hS,HV⟩:=hrel;rename World=>wr
  by_cases hkn:k<n
  ·obtain⟨b,o,_,rfl,hx,_,_,_⟩:=HB.out wr hS.b k hkn;have S2:=hS.keep ((Below.refl _ _).alloc (Nat.le_refl _) (.cells #[.int .u64 ((fx k).getD 0 0),.int .u64 ((fx k).getD 1 0),.int .u64 ((fx k).getD 2 0),.int .u64 ((fx k).getD 3 0),.int .u64 ((fx k).getD 4 0),.int .u64 ((fx k).getD 5 0)] 71));obtain⟨_,_,q,e1,_,hq,hqe,hB2⟩:=HB.out _ S2.b k hkn
   cases e1;have HBS:Hid _:=hB2;clear hB2;obtain⟨ls,v,hvq,hll,HN⟩:=HSt'.out k q hkn hq hqe vs HV.out;have hkn':(k:Int)<(n:Int):=by omega
   have hqm':(q:Int)<(m:Int):=by omega
   have d0:=hx 0 (by omega);rw[Nat.add_zero]at d0;have d1:=hx 1 (by omega);have d2:=hx 2 (by omega);have d3:=hx 3 (by omega);have d4:=hx 4 (by omega);have d5:=hx 5 (by omega);have hX:=fun p(hp:p<6)=>six_cells wr (fx k) 71 hp
   have hXj:=hX j hj;have z0:=hX 0 (by omega);have z1:=hX 1 (by omega);have z2:=hX 2 (by omega);have z3:=hX 3 (by omega);have z4:=hX 4 (by omega);have z5:=hX 5 (by omega);have HN2:Hid (∀gg cap w1',w1'.ownsRow (w.heap.size+1) 71 6 (.slice (some ⟨gg,0,none⟩) (ls.length+1) cap) (ls.length+1) (ls.flatMap xs6++[.int .u64 ((fx k).getD 0 0),.int .u64 ((fx k).getD 1 0),.int .u64 ((fx k).getD 2 0),.int .u64 ((fx k).getD 3 0),.int .u64 ((fx k).getD 4 0),.int .u64 ((fx k).getD 5 0)])->((wr.alloc (.cells #[.int .u64 ((fx k).getD 0 0),.int .u64 ((fx k).getD 1 0),.int .u64 ((fx k).getD 2 0),.int .u64 ((fx k).getD 3 0),.int .u64 ((fx k).getD 4 0),.int .u64 ((fx k).getD 5 0)] 71)).drew.alloc (.cells #[.int .u64 ((fx k).getD 0 0),.int .u64 ((fx k).getD 1 0),.int .u64 ((fx k).getD 2 0),.int .u64 ((fx k).getD 3 0),.int .u64 ((fx k).getD 4 0),.int .u64 ((fx k).getD 5 0)] 71)).grownBy w1' v.ownBlock->(v.ownBlock=some gg∨gg=wr.heap.size+1+1)->(w1'.cell? ⟨w.heap.size,q,none⟩=some v∧w1'.frozen? ⟨w.heap.size,q,none⟩=false)∧∃vs',SplS w (w1'.setCell ⟨w.heap.size,q,none⟩ (.slice (some ⟨gg,0,none⟩) (ls.length+1) cap)) vs'∧Hid (vs'.map Prod.fst=G (k+1))):=fun gg cap' w1' ho hg hat=>by
    obtain⟨r1,r2⟩:=S2.put (x:=fx k) (wa:=(wr.alloc (.cells #[.int .u64 ((fx k).getD 0 0),.int .u64 ((fx k).getD 1 0),.int .u64 ((fx k).getD 2 0),.int .u64 ((fx k).getD 3 0),.int .u64 ((fx k).getD 4 0),.int .u64 ((fx k).getD 5 0)] 71)).drew.alloc (.cells #[.int .u64 ((fx k).getD 0 0),.int .u64 ((fx k).getD 1 0),.int .u64 ((fx k).getD 2 0),.int .u64 ((fx k).getD 3 0),.int .u64 ((fx k).getD 4 0),.int .u64 ((fx k).getD 5 0)] 71)) hvq (((Below.refl _ _).drew).alloc (by simp) _) hg ho (hat.imp (fun e=>e.symm) fun e=>⟨gg,rfl,by subst e;simp⟩);exact⟨r1,_,r2,HN _⟩
   obtain⟨cq,fq⟩:=S2.cell hvq;have hown:=S2.rows.own (ls,v) (List.mem_of_getElem? hvq);obtain⟨av,cv,hve⟩:=form_nil hown;simp only at hve hown cq;have hlt2:w.heap.size<wr.heap.size:=hS.lt;have hbm:ls.length+1<=maxLen:=by unfold maxLen;omega
   have hbd:(ls.length+1)*48<=140737488355328:=by omega
   clear HB HSt' HF hx hX hqe HN hvq HV S2 hS;generalize(fx k).getD j 0=y at*;generalize(fx k).getD 0 0=x0 at*;generalize(fx k).getD 1 0=x1 at*;generalize(fx k).getD 2 0=x2 at*;generalize(fx k).getD 3 0=x3 at*;generalize(fx k).getD 4 0=x4 at*;generalize(fx k).getD 5 0=x5 at*;subst hve;go_upto_region 5 with fail
   have hs2:(wr.alloc (.cells #[.int .u64 x0,.int .u64 x1,.int .u64 x2,.int .u64 x3,.int .u64 x4,.int .u64 x5] 71)).heap.size=wr.heap.size+1:=by simp
   generalize wr.alloc (.cells #[.int .u64 x0,.int .u64 x1,.int .u64 x2,.int .u64 x3,.int .u64 x4,.int .u64 x5] 71)=W2 at*;have HS2:Hid (W2.heap.size=wr.heap.size+1):=hs2;have hs3:w.heap.size+1<=W2.heap.size:=by omega
   clear hs2;go_wp2_with fail;refine Calls.mono HBS.out ?_;rintro _ w3⟨rfl,e3⟩;have e4:=e3.symm;clear e3;subst e4;go_wp2_with fail;have ca:=fun ob=>cell_step ((Below.refl _ _).alloc (Nat.le_refl W2.heap.size) ob) cq
   have za0:=fun ob=>cell_step ((Below.refl _ _).alloc (Nat.le_refl W2.heap.size) ob) z0
   go_region_law(refine step_append_lies _ (by rfl) _ _ _ (by rfl) (w.heap.size+1) 71 i0 _ 6 48 Tryz.underlying66 hi hz0 hz1 hz2 rfl (by omega) (.slice av ls.length cv) ls.length (ls.flatMap xs6) (by rfl) ((hown.drew).alloc _) ⟨W2.heap.size,0,none⟩ 1 1 [.int .u64 x0,.int .u64 x1,.int .u64 x2,.int .u64 x3,.int .u64 x4,.int .u64 x5] (by rfl) (by rfl) (World.news_of_block (t:=71) (fr:=(0,0)) (heap_alloc_new W2.drew _)) (by simp[Value.oneCell']) (by omega) hbm hbd (by simp;omega) (wr.heap.size+1+1) (by simp[HS2.out]) ?_;intro gg cap2 w1' hown1 hgrow hat hlt2;obtain⟨⟨x1',x2'⟩,vs',y1,y2⟩:=HN2.out gg cap2 w1' hown1 hgrow hat);all_goals
    clear HN2 hown hown1 hgrow hat hlt2 x1' x2' ca za0 z0 z1 z2 z3 z4 z5 cq fq HBS;go_wp2;go_roundw
    case rel=>exact⟨k+1,vs',by omega,by go_num,y1,y2⟩
    case measure=>simp[intOf];omega
  have hk':k=n:=by omega
  subst hk';have hlt':¬(k:Int)<(k:Int):=by omega
  have HR:Hid _:=HF.out wr vs hS HV.out;clear HB HSt' HF hS HV;go_wp2;exact bodyPost_ret (v:=.slice (some ⟨w.heap.size,0,none⟩) m m) (by simp[results,Tryz.results69,go_sem]) rfl HR.out
end Go.Proofs.YtddemlfepjkgoaaGreat
