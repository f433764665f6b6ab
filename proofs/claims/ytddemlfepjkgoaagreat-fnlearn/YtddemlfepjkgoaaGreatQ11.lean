import Derived.WideKeyEntry
import Derived.Test.YtddemlfepjkgoaaGreatQ08
import Derived.Test.YtddemlfepjkgoaaGreatQ10
set_option linter.all false
set_option maxRecDepth 200000
set_option maxHeartbeats 16000000
namespace Go.Proofs.YtddemlfepjkgoaaGreat
open Go.RowKit
def tot:List C->Nat
 |[]=>0
 |c::r=>c.args.length+tot r
theorem callL_mem{cs:List C}{i:Nat}(hi:i<cs.length):cs.getD i C.zero∈cs:=by
 rw[List.getD_eq_getElem?_getD,List.getElem?_eq_getElem hi];exact List.getElem_mem hi
theorem getD_take{cs:List C}{i k:Nat}(h:i<k):(cs.take k).getD i C.zero=cs.getD i C.zero:=by
 simp[List.getD_eq_getElem?_getD,h]
theorem CSrc.at{w:World}{a:Option Addr}{cs:List C}(hs:CSrc w a cs)(i:Nat)(hi:i<cs.length):∃b o,a=some ⟨b,o,none⟩∧b<w.heap.size∧w.cell? ⟨b,o+i*3,none⟩=some (.int .u32 (cs.getD i C.zero).arch)∧w.cell? ⟨b,o+i*3+1,none⟩=some (.int .u32 (cs.getD i C.zero).nr)∧
 ∃a' cap',w.cell? ⟨b,o+i*3+2,none⟩=some (.slice a' (cs.getD i C.zero).args.length cap')∧USrc w a' (cs.getD i C.zero).args:=by
 rcases hs with rfl|⟨b,o,h1,h2,h3⟩
 ·simp at hi
 obtain⟨c0,c1,a',cap',c2,hu⟩:=h3 i hi;exact⟨b,o,h1,h2,c0,c1,a',cap',c2,hu⟩
theorem usrc_at{w:World}{a:Option Addr}{l:List Int}(h:USrc w a l)(h0:0<l.length):∃b o,a=some ⟨b,o,none⟩∧∀q,q<l.length->w.cell? ⟨b,o+q,none⟩=some (.int .u64 (l.getD q 0)):=by
 rcases h with rfl|⟨b,o,h1,h2,h3⟩
 ·simp at h0
 exact⟨b,o,h1,fun q hq=>h3 q hq⟩
theorem csrc_six{w:World}{a:Option Addr}{t:List C}(hs:CSrc w a t)(hc:∀c∈t,okLa c.args){i:Nat}(hi:i<t.length):∃b o b' o' cap',a=some ⟨b,o,none⟩∧b<w.heap.size∧w.cell? ⟨b,o+i*3,none⟩=some (.int .u32 (t.getD i C.zero).arch)∧w.cell? ⟨b,o+i*3+1,none⟩=some (.int .u32 (t.getD i C.zero).nr)∧w.cell? ⟨b,o+i*3+2,none⟩=some (.slice (some ⟨b',o',none⟩) 6 cap')∧USrc w (some ⟨b',o',none⟩) (t.getD i C.zero).args∧∀q,q<6->w.cell? ⟨b',o'+q,none⟩=some (.int .u64 ((t.getD i C.zero).args.getD q 0)):=by
 have h6:=(hc _ (callL_mem hi)).1;obtain⟨b,o,e,hb,c0,c1,a',cap',c2,hu⟩:=hs.at i hi;obtain⟨b',o',rfl,h3⟩:=usrc_at hu (by omega);rw[h6]at c2 h3;exact⟨b,o,b',o',cap',e,hb,c0,c1,c2,hu,h3⟩
def pickA(t:List C)(j:Nat)(x v:Int)(k:Nat):List Int:=pickL ((t.take k).map C.args) j x v
theorem take_mapC{t:List C}{k:Nat}(h:k<t.length):(t.take (k+1)).map C.args=(t.take k).map C.args++[(t.getD k C.zero).args]:=by
 rw[List.take_add_one,List.map_append,List.getElem?_eq_getElem h,List.getD_eq_getElem?_getD,List.getElem?_eq_getElem h];rfl
theorem pickA_yes{t:List C}(j:Nat){x v:Int}{k:Nat}(h:k<t.length)(hx:x<0∨(t.getD k C.zero).args.getD x.toNat 0=v):pickA t j x v (k+1)=pickA t j x v k++[(t.getD k C.zero).args.getD j 0]:=by
 unfold pickA;rw[take_mapC h];exact pickL_yes j hx
theorem pickA_no{t:List C}(j:Nat){x v:Int}{k:Nat}(h:k<t.length)(hx:¬x<0)(hv:(t.getD k C.zero).args.getD x.toNat 0≠v):pickA t j x v (k+1)=pickA t j x v k:=by
 unfold pickA;rw[take_mapC h];exact pickL_no j hx hv
theorem pickA_len(t:List C)(j:Nat)(x v:Int)(k:Nat):(pickA t j x v k).length<=t.length:=
 Nat.le_trans (pickL_len _ _ _ _) (by rw[List.length_map,List.length_take];omega)
theorem l4values_any(t:List C)(a:Option Addr)(cap j:Nat)(x v:Int)(w:World)(hs:CSrc w a t)(hc:∀c∈t,okLa c.args)(hj:j<6)(hx0: -1<=x)(hx1:x<6)(hn:t.length<=1000):
 Calls Tryz.prog 86 #[.slice a t.length cap,.int .i64 (j:Int),.int .i64 x,.int .u64 v] w fun e w'=>∃v',e=.returned v'∧ownsU w' w.heap.size v' (pickL (t.map C.args) j x v)∧Below w.heap.size w w':=by
 obtain⟨i0,hi,hz0,hz1,hz2⟩:=info_parts info61;have HC:Hid (∀wr,Below w.heap.size w wr->∀i,i<t.length->∃b o b' o' cap',a=some ⟨b,o,none⟩∧wr.cell? ⟨b,o+i*3+2,none⟩=some (.slice (some ⟨b',o',none⟩) 6 cap')∧∀q,q<6->wr.cell? ⟨b',o'+q,none⟩=some (.int .u64 ((t.getD i C.zero).args.getD q 0))):=fun wr hb i hi=>by
  obtain⟨b,o,b',o',cap',h1,_,_,_,h2,_,h3⟩:=csrc_six (hs.below hb) hc hi;exact⟨b,o,b',o',cap',h1,h2,h3⟩
 have HY:Hid (∀k,k<t.length->(x<0∨(t.getD k C.zero).args.getD x.toNat 0=v)->pickA t j x v (k+1)=pickA t j x v k++[(t.getD k C.zero).args.getD j 0]):=fun k h h'=>pickA_yes j h h'
 have HNo:Hid (∀k,k<t.length->¬x<0->(t.getD k C.zero).args.getD x.toNat 0≠v->pickA t j x v (k+1)=pickA t j x v k):=fun k h h' h''=>pickA_no j h h' h''
 have HL:Hid (∀k,(pickA t j x v k).length<=1000):=fun k=>Nat.le_trans (pickA_len t j x v k) hn
 have HE:Hid (pickA t j x v t.length=pickL (t.map C.args) j x v):=by unfold Hid pickA;rw[List.take_length]
 have H0:pickA t j x v 0=[]:=rfl;generalize pickL (t.map C.args) j x v=RES at*;generalize pickA t j x v=A at*;clear hs hc;generalize t.length=n at*;go_enter Tryz.func86,Tryz.ntmps86;go_wp2_with fail;go_loopw [9,10](fun s' i wr=>∃(k:Nat)(s:Value),s=s'∧k<=n∧i=.int .i64 k∧ownsU wr w.heap.size s (A k)∧Below w.heap.size w wr)(fun _ i _=>n-(intOf i).toNat)
 case atStart=>exact⟨0,_,rfl,by omega,rfl,by rw[H0];exact World.ownsRow_nil _ _ _ _,Below.refl _ _⟩
 case round=>
  clear H0;obtain⟨k,s,hss,hk,rfl,O,B⟩:=hrel;subst hss;rename World=>wr
  obtain⟨au,cu,rfl,_⟩:=ownsU_src O;by_cases hkn:k<n
  ·obtain⟨b,o,b',o',cap',rfl,c2,cq⟩:=HC.out wr B k hkn;have hkn':(k:Int)<(n:Int):=by omega
   have cj:=cq j hj;have HYk:=HY.out k hkn;have HNk:=HNo.out k hkn;have hl:=HL.out k;have hj6:(j:Int)<6:=by omega
   have hbm:(A k).length+1<=maxLen:=by unfold maxLen;omega
   have hbd:((A k).length+1)*8<=140737488355328:=by omega
   have hbs:w.heap.size<=(wr.alloc (.cells #[.int .u64 ((t.getD k C.zero).args.getD j 0)] 69)).heap.size:=by have:=B.size;simp;omega
   by_cases hx:x<0
   ·have hA:=HYk (.inl hx);clear HY HNo HC HYk HNk cq;generalize(t.getD k C.zero).args.getD j 0=y at*;go_wp2_with(at_builtin;refine wpList_append_own _ rfl (.tmp 31) (.tmp 40) 37 rfl w.heap.size 69 i0 (.int .u64 0) 1 8 Tryz.underlying37 hi hz0 hz1 hz2 rfl (by decide) (.slice au (A k).length cu) (A k).length ((A k).map (Value.int .u64)) rfl (World.ownsRow.alloc O _) ⟨wr.heap.size,0,none⟩ 1 1 [.int .u64 y] rfl rfl (World.news_of_block (t:=69) (fr:=(0,0)) (heap_alloc_new wr _)) (by simp[Value.oneCell']) hbm hbd hbs ?_);intro v9 w9 ow gr _;have o9:ownsU w9 w.heap.size v9 (A (k+1)):=by rw[hA,ownsU,List.length_append,List.map_append];exact ow
    have B9:Below w.heap.size w w9:=(B.alloc B.size _).grown gr hbs (fun q hq=>(World.ownsRow.lt O q hq).1);clear ow gr O B c2 cj;go_wp2;go_roundw
    case rel=>exact⟨k+1,_,rfl,by omega,by go_num,o9,B9⟩
    case measure=>simp[intOf];omega
   obtain⟨X,rfl⟩:∃X:Nat,x=X:=⟨x.toNat,by omega⟩;have cX:=cq X (by omega);have hX6:(X:Int)<6:=by omega
   rw[Int.toNat_natCast]at HYk HNk;clear HY HNo HC cq;by_cases he:(t.getD k C.zero).args.getD X 0=v
   ·have hA:=HYk (.inr he);rw[he]at cX;clear HYk HNk;generalize(t.getD k C.zero).args.getD j 0=y at*;go_wp2_with(at_builtin;refine wpList_append_own _ rfl (.tmp 31) (.tmp 40) 37 rfl w.heap.size 69 i0 (.int .u64 0) 1 8 Tryz.underlying37 hi hz0 hz1 hz2 rfl (by decide) (.slice au (A k).length cu) (A k).length ((A k).map (Value.int .u64)) rfl (World.ownsRow.alloc O _) ⟨wr.heap.size,0,none⟩ 1 1 [.int .u64 y] rfl rfl (World.news_of_block (t:=69) (fr:=(0,0)) (heap_alloc_new wr _)) (by simp[Value.oneCell']) hbm hbd hbs ?_);intro v9 w9 ow gr _;have o9:ownsU w9 w.heap.size v9 (A (k+1)):=by rw[hA,ownsU,List.length_append,List.map_append];exact ow
    have B9:Below w.heap.size w w9:=(B.alloc B.size _).grown gr hbs (fun q hq=>(World.ownsRow.lt O q hq).1);clear ow gr O B c2 cj cX;go_wp2;go_roundw
    case rel=>exact⟨k+1,_,rfl,by omega,by go_num,o9,B9⟩
    case measure=>simp[intOf];omega
   have hA:=HNk (by omega) he;have o9:ownsU wr w.heap.size (.slice au (A k).length cu) (A (k+1)):=by rw[hA];exact O
   have hev:((t.getD k C.zero).args.getD X 0==v)=false:=by simpa using he
   clear HYk HNk hA O;generalize(t.getD k C.zero).args.getD X 0=y at*;go_wp2;go_roundw
   case rel=>exact⟨k+1,_,rfl,by omega,by go_num,o9,B⟩
   case measure=>simp[intOf];omega
  have hk':k=n:=by omega
  subst hk';have O9:ownsU wr w.heap.size (.slice au (A k).length cu) RES:=by rw[<-HE.out];exact O
  clear HY HNo HC HL HE;go_wp2;go_ret;exact⟨_,rfl,O9,B⟩
end Go.Proofs.YtddemlfepjkgoaaGreat
namespace Go.Proofs.YtddemlfepjkgoaaGreat
open Go.RowKit Go.Deep
set_option linter.unusedSimpArgs false
def xA(x:La)(q:Nat):Value:=.int .u64 (x.getD q 0)
def idV(i:Id2):Value:=.agg #[.int .u32 i.1,.int .u32 i.2]
theorem id_equal(a b:Id2)(w:World):(Op.equal 61 (idV a) (idV b)).run Tryz.prog w=.ok (decide (a=b)) w:=by
 unfold Op.equal Op.maxDepth idV;rw[Op.equalIn];obtain⟨a1,a2⟩:=a;obtain⟨b1,b2⟩:=b;by_cases h1:a1=b1<;>by_cases h2:a2=b2<;>simp[go_sem,run_underlying Tryz.underlying61,h1,h2]
theorem id_check(em:Bool)(i:Id2)(w:World):(Instr.checkKey em 10000 61 (idV i)).run Tryz.prog w=.ok () w:=by kernel_rfl
theorem id_stays(i:Id2)(w:World):(Instr.keyThatStays (idV i) (idV i)).run Tryz.prog w=.ok (idV i) w:=by
 simp[Instr.keyThatStays,Instr.sameBits,idV]
def entsF(f:Nat->Nat)(l:List (Id2×Value)):List MapEntry:=l.mapIdx fun n p=>⟨idV p.1,p.2,f n⟩
def entsI(l:List (Id2×Value)):Array MapEntry:=(entsF id l).toArray
theorem ask_none(i:Id2)(w:World):∀(l:List (Id2×Value))(f:Nat->Nat)(j:Nat),(∀p∈l,p.1≠i)->(Instr.findAsking 61 (idV i) (entsF f l) j).run Tryz.prog w=.ok none w
 |[],_,_,_=>by simp[entsF,Instr.findAsking]
 |p::r,f,j,h=>by
  have h1:i≠p.1:=fun e=>h p (by simp) e.symm
  have ih:=ask_none i w r (fun n=>f (n+1)) (j+1) (fun q hq=>h q (by simp[hq]));unfold entsF at ih⊢;rw[List.mapIdx_cons,Instr.findAsking];simp[id_equal,h1,Result.andThen,ih]
theorem ask_some(i:Id2)(v:Value)(w:World):∀(l:List (Id2×Value))(f:Nat->Nat)(j q:Nat),(l.map Prod.fst).Nodup->l[q]? =some (i,v)->(Instr.findAsking 61 (idV i) (entsF f l) j).run Tryz.prog w=.ok (some (j+q,v)) w
 |[],_,_,_,_,h=>by simp at h
 |p::r,f,j,0,hn,h=>by
  simp at h;subst h;unfold entsF;rw[List.mapIdx_cons,Instr.findAsking];simp[id_equal,Result.andThen]
 |p::r,f,j,q+1,hn,h=>by
  rw[List.getElem?_cons_succ]at h;rw[List.map_cons,List.nodup_cons]at hn;have h1:i≠p.1:=fun e=>hn.1 (List.mem_map.2 ⟨_,List.mem_of_getElem? h,e⟩)
  have ih:=ask_some i v w r (fun n=>f (n+1)) (j+1) q hn.2 h;unfold entsF at ih⊢;rw[List.mapIdx_cons,Instr.findAsking];simp[id_equal,h1,Result.andThen,ih];omega
theorem find_ask(i:Id2)(l:List (Id2×Value))(w:World):(Instr.findKey 61 (idV i) (entsI l).toList).run Tryz.prog w=(Instr.findAsking 61 (idV i) (entsF id l) 0).run Tryz.prog w:=by
 unfold Instr.findKey;simp only[Sem.run_bind,run_underlying Tryz.underlying61,Result.andThen,entsI]
 cases l with
 |nil=>simp[entsF,Instr.findNow,Instr.findAsking]
 |cons p r=>simp[entsF,Instr.findNow,Instr.sameNow]
theorem entsI_size(l:List (Id2×Value)):(entsI l).size=l.length:=by simp[entsI,entsF]
theorem entsI_get(l:List (Id2×Value))(q:Nat):(entsI l)[q]? =(l[q]?).map fun p=>⟨idV p.1,p.2,q⟩:=by simp[entsI,entsF]
theorem entsI_snoc(l:List (Id2×Value))(i:Id2)(v:Value):(entsI l).push ⟨idV i,v,l.length⟩=entsI (l++[(i,v)]):=by
 apply Array.ext_getElem?;intro q;rw[entsI_get,Array.getElem?_push,entsI_size];split
 ·rename_i h;subst h;simp
 rename_i h;rw[entsI_get];by_cases hq:q<l.length
 ·rw[List.getElem?_append_left hq]
 rw[List.getElem?_eq_none (by omega),List.getElem?_eq_none (by simp;omega)]
theorem entsI_key(l:List (Id2×Value)){q:Nat}{i:Id2}{v:Value}(h:l[q]? =some (i,v)):(entsI l).modify q (fun e=>{e with key:=idV i})=entsI l:=by
 apply Array.ext_getElem?;intro j;rw[Array.getElem?_modify];split
 ·rename_i e;subst e;rw[entsI_get,h];rfl
 rfl
theorem entsI_val(l:List (Id2×Value)){q:Nat}{i:Id2}{v v':Value}(h:l[q]? =some (i,v)):(entsI l).modify q (fun e=>{e with val:=v'})=entsI (l.set q (i,v')):=by
 apply Array.ext_getElem?;intro j;rw[Array.getElem?_modify,entsI_get,entsI_get,List.getElem?_set];split
 ·rename_i e;subst e;rw[h,if_pos (List.getElem?_eq_some_iff.1 h).1];rfl
 rfl
theorem entsI_born(l:List (Id2×Value)){q:Nat}(h:q<l.length):(entsI l).findIdx? (fun e=>((e.born:Nat):Int)==((q:Nat):Int))=some q:=by
 have e0:(entsF id l)[q]? =some (⟨idV (l[q]).1,(l[q]).2,q⟩:MapEntry):=by simp[entsF,h]
 have hn:((entsF id l).map (·.born)).Nodup:=by
  have e:(entsF id l).map (·.born)=List.range l.length:=by
   apply List.ext_getElem?;intro j;by_cases hj:j<l.length
   ·simp[entsF,hj]
   simp[entsF,List.getElem?_eq_none (Nat.le_of_not_lt hj),List.getElem?_eq_none (show(List.range l.length).length<=j by simp;omega)]
  rw[e];exact List.nodup_range
 have:=Go.WideElems.findIdx_born hn e0;rw[Go.WideElems.findIdx_arr];exact this
theorem zero_rows(w:World):(zeroValue 66).run Tryz.prog w=.ok (.slice none 0 0) w:=by kernel_rfl
section
variable{w:World}{m:Nat}{l:List (Id2×Value)}(hb:w.heap[m]? =some (.map (entsI l) l.length))
include hb
theorem run_entry_new{i:Id2}(h:∀p∈l,p.1≠i):(Instr.mapEntry 54 (.map (some m)) (idV i)).run Tryz.prog w=.ok (.tuple #[.slice none 0 0,goInt l.length]) {w with heap:=w.heap.setIfInBounds m (.map (entsI (l++[(i,.slice none 0 0)])) (l.length+1))}:=by
 simp[Instr.mapEntry,run_underlying Tryz.underlying54,MapKept.run_getObj_map hb,id_check,find_ask,ask_none i w l id 0 h,zero_rows,MapKept.run_setObj_map _ hb,Result.andThen,entsI_snoc]
theorem run_entry_old{i:Id2}{v:Value}{q:Nat}(hn:(l.map Prod.fst).Nodup)(h:l[q]? =some (i,v)):(Instr.mapEntry 54 (.map (some m)) (idV i)).run Tryz.prog w=.ok (.tuple #[v,goInt q]) {w with heap:=w.heap.setIfInBounds m (.map (entsI l) l.length)}:=by
 simp[Instr.mapEntry,run_underlying Tryz.underlying54,MapKept.run_getObj_map hb,id_check,find_ask,ask_some i v w l id 0 q hn h,entsI_get,h,id_stays,entsI_key l h,MapKept.run_setObj_map _ hb,Result.andThen]
theorem run_store{i:Id2}{v v':Value}{q:Nat}(h:l[q]? =some (i,v)):(Instr.entryStore 54 (.map (some m)) (goInt q) v').run Tryz.prog w=.ok () {w with heap:=w.heap.setIfInBounds m (.map (entsI (l.set q (i,v'))) l.length)}:=by
 simp[Instr.entryStore,MapKept.run_getObj_map hb,asInt,asIntOf,goInt,entsI_born l (List.getElem?_eq_some_iff.1 h).1,entsI_val l h,MapKept.run_setObj_map _ hb,Result.andThen]
theorem run_look{i:Id2}{v:Value}{q:Nat}(hn:(l.map Prod.fst).Nodup)(h:l[q]? =some (i,v)):(Instr.lookup 54 (.map (some m)) (idV i) false).run Tryz.prog w=.ok v w:=by
 simp[Instr.lookup,run_underlying Tryz.underlying54,MapKept.run_getObj_map hb,id_check,find_ask,ask_some i v w l id 0 q hn h,Result.andThen]
end
def xs6(x:La):List Value:=[xA x 0,xA x 1,xA x 2,xA x 3,xA x 4,xA x 5]
structure Rows6(w:World)(lo:Nat)(vs:List (List La×Value)):Prop where
 own:∀p∈vs,w.ownsRow lo 71 6 p.2 p.1.length (p.1.flatMap xs6)
 ap:∀(i j:Nat)p q,i≠j->vs[i]? =some p->vs[j]? =some q->∀g,p.2.ownBlock=some g->q.2.ownBlock≠some g
theorem row6_blocks{w w':World}{lo n:Nat}{v:Value}{xs:List Value}(h:w.ownsRow lo 71 6 v n xs)(hk:∀g,v.ownBlock=some g->w'.heap[g]? =w.heap[g]?):w'.ownsRow lo 71 6 v n xs:=by
 obtain⟨h1,h2⟩:=h;refine⟨h1,h2.imp id ?_⟩;rintro⟨g,cap,cur,e1,e2,e3,e4⟩;exact⟨g,cap,cur,e1,e2,(hk g (by rw[e1];rfl)).trans e3,e4⟩
theorem Rows6.keep{w w':World}{lo:Nat}{vs:List (List La×Value)}(h:Rows6 w lo vs)(hk:∀q,lo<=q->q<w.heap.size->w'.heap[q]? =w.heap[q]?):Rows6 w' lo vs:=
 ⟨fun p hp=>row6_blocks (h.own p hp) fun g hg=>by have:=(h.own p hp).lt g hg;exact hk g this.1 this.2,h.ap⟩
theorem Rows6.nil{w:World}{lo:Nat}{vs:List (List La×Value)}(h:Rows6 w lo vs):Rows6 w lo (vs++[([],.slice none 0 0)]):=by
 refine⟨fun p hp=> ?_,fun i j p q hij hi hj g hg=> ?_⟩
 ·rw[List.mem_append,List.mem_singleton]at hp;rcases hp with hp|rfl
  ·exact h.own p hp
  exact World.ownsRow_nil _ _ _ _
 rw[List.getElem?_append]at hi hj;split at hi<;>split at hj
 ·exact h.ap i j p q hij hi hj g hg
 ·rw[List.getElem?_singleton]at hj;split at hj
  ·cases hj;simp[Value.ownBlock]
  cases hj
 ·rw[List.getElem?_singleton]at hi;split at hi
  ·cases hi;simp[Value.ownBlock]at hg
  cases hi
 rw[List.getElem?_singleton]at hj;split at hj
 ·cases hj;simp[Value.ownBlock]
 cases hj
theorem Rows6.put{w wa w1:World}{lo q:Nat}{vs:List (List La×Value)}{ls ls':List La}{v v':Value}(h:Rows6 w lo vs)(hq:vs[q]? =some (ls,v))(ha:w.heap.size<=wa.heap.size)(hk:∀b,lo<=b->b<w.heap.size->wa.heap[b]? =w.heap[b]?)
 (hg:wa.grownBy w1 v.ownBlock)(ho:w1.ownsRow lo 71 6 v' ls'.length (ls'.flatMap xs6))(hat:v'.ownBlock=v.ownBlock∨∃g,v'.ownBlock=some g∧wa.heap.size<=g):Rows6 w1 lo (vs.set q (ls',v')):=by
 have hql:=(List.getElem?_eq_some_iff.1 hq).1;have key:∀j p,j≠q->vs[j]? =some p->∀g,p.2.ownBlock=some g->v'.ownBlock≠some g:=fun j p hj hp g hg' e=>by
  rcases hat with e'|⟨g',e',hge⟩
  ·exact h.ap j q p _ hj hp hq g hg' (e'▸e)
  rw[e']at e;cases e;have:=(h.own p (List.mem_of_getElem? hp)).lt g hg';omega
 refine⟨fun p hp=> ?_,fun i j p p' hij hi hj g hgi=> ?_⟩
 ·obtain⟨j,hj⟩:=List.mem_iff_getElem?.1 hp;rw[List.getElem?_set]at hj;split at hj
  ·cases hj;exact ho
  rename_i hne;refine row6_blocks (h.own p (List.mem_of_getElem? hj)) fun g hg'=> ?_
  have:=(h.own p (List.mem_of_getElem? hj)).lt g hg';exact(hg.block g (by omega) (fun e=>h.ap j q p _ (fun e=>hne e.symm) hj hq g hg' e.symm)).trans (hk g this.1 this.2)
 rw[List.getElem?_set]at hi hj;split at hi
 ·rename_i e;subst e
  cases hi;rw[if_neg hij]at hj;intro e;exact key j p' (fun e=>hij e.symm) hj g e hgi
 rename_i hne;split at hj
 ·rename_i e;subst e
  cases hj;exact key i p (fun e=>hne e.symm) hi g hgi
 exact h.ap i j p p' hij hi hj g hgi
def IsGrp(cs:List C)(K:Id2->Prop)(g:List (Id2×List La)):Prop:=(g.map Prod.fst).Nodup∧(∀p∈g,p.2=groupOf cs p.1)∧∀i,(∃p∈g,p.1=i)↔K i
theorem IsGrp.start:IsGrp [] (fun i=>i∈([]:List C).map idC) []:=⟨by simp,by simp,by simp⟩
theorem groupOf_none{cs:List C}{i:Id2}(h:i∉cs.map idC):groupOf cs i=[]:=by
 unfold groupOf;rw[List.filter_eq_nil_iff.2 (fun c hc=>by simp only[decide_eq_true_eq];exact fun e=>h (List.mem_map.2 ⟨c,hc,e⟩))];rfl
theorem groupOf_snoc(cs:List C)(c:C)(i:Id2):groupOf (cs++[c]) i=groupOf cs i++(if idC c=i then [c.args]else []):=by
 unfold groupOf;rw[List.filter_append,List.map_append];by_cases h:idC c=i<;>simp[h]
theorem IsGrp.fresh{cs:List C}{g:List (Id2×List La)}{i:Id2}(h:IsGrp cs (fun i=>i∈cs.map idC) g)(hi:∀p∈g,p.1≠i):IsGrp cs (fun j=>j∈cs.map idC∨j=i) (g++[(i,[])]):=by
 obtain⟨h1,h2,h3⟩:=h;have hni:i∉cs.map idC:=fun e=>by obtain⟨p,hp,e⟩:=(h3 i).2 e;exact hi p hp e
 refine⟨?_,fun p hp=> ?_,fun j=> ?_⟩
 ·rw[List.map_append,List.nodup_append];refine⟨h1,by simp,fun a ha b hb e=> ?_⟩;simp at hb;subst hb;subst e;obtain⟨p,hp,e⟩:=List.mem_map.1 ha;exact hi p hp e
 ·rw[List.mem_append,List.mem_singleton]at hp;rcases hp with hp|rfl
  ·exact h2 p hp
  exact(groupOf_none hni).symm
 constructor
 ·rintro⟨p,hp,rfl⟩;rw[List.mem_append,List.mem_singleton]at hp;rcases hp with hp|rfl
  ·exact .inl ((h3 _).1 ⟨p,hp,rfl⟩)
  exact .inr rfl
 rintro(h|rfl)
 ·obtain⟨p,hp,e⟩:=(h3 _).2 h;exact⟨p,by simp[hp],e⟩
 exact⟨(_,[]),by simp,rfl⟩
theorem IsGrp.known{cs:List C}{g:List (Id2×List La)}{i:Id2}(h:IsGrp cs (fun i=>i∈cs.map idC) g)(hi:∃p∈g,p.1=i):IsGrp cs (fun j=>j∈cs.map idC∨j=i) g:=
 ⟨h.1,h.2.1,fun j=>(h.2.2 j).trans ⟨.inl,fun e=>e.elim id fun e=>by subst e;exact(h.2.2 _).1 hi⟩⟩
theorem IsGrp.put {cs : List C} {g : List (Id2 × List La)} {c : C} {q : Nat} {ls : List La} (h : IsGrp cs (fun j => j ∈ cs.map idC ∨ j = idC c) g) (hq : g[q]? = some (idC c, ls)) : IsGrp (cs ++ [c]) (fun i => i ∈ (cs ++ [c]).map idC) (g.set q (idC c, ls ++ [c.args])) := by
  obtain ⟨h1, h2, h3⟩ := h
  have hql := (List.getElem?_eq_some_iff.1 hq).1
  have hkeys : (g.set q (idC c, ls ++ [c.args])).map Prod.fst = g.map Prod.fst := by
    apply List.ext_getElem?
    intro j
    rw [List.getElem?_map, List.getElem?_map, List.getElem?_set]
    split
    · rename_i e; subst e; rw [hq]; rfl
    · rfl
  refine ⟨by rw [hkeys]; exact h1, fun p hp => ?_, fun i => ?_⟩
  · obtain ⟨j, hj⟩ := List.mem_iff_getElem?.1 hp
    rw [List.getElem?_set] at hj
    rw [groupOf_snoc]
    split at hj
    · cases hj
      rw [if_pos rfl, <- h2 _ (List.mem_of_getElem? hq)]
    · rename_i hne
      have hm := List.mem_of_getElem? hj
      rw [if_neg, List.append_nil]
      · exact h2 p hm
      · intro e
        apply hne
        have e1 : (g.map Prod.fst)[q]? = some (idC c) := by rw [List.getElem?_map, hq]; rfl
        have e2 : (g.map Prod.fst)[j]? = some (idC c) := by rw [List.getElem?_map, hj, e]; rfl
        exact (List.getElem?_inj (by rw [List.length_map]; exact hql) h1).1 (e1.trans e2.symm)
  · have e : (∃ p ∈ g.set q (idC c, ls ++ [c.args]), p.1 = i) ↔ ∃ p ∈ g, p.1 = i := by
      rw [<- List.mem_map (f := Prod.fst) (b := i), <- List.mem_map (f := Prod.fst) (b := i), hkeys]
    rw [e, h3 i]
    simp [eq_comm]
abbrev GEl:=Id2×(List La×Value)
def kvG(os:List GEl):List (Id2×Value):=os.map fun p=>(p.1,p.2.2)
def glG(os:List GEl):List (Id2×List La):=os.map fun p=>(p.1,p.2.1)
structure GrpS(w:World)(m:Nat)(os:List GEl):Prop where
 blk:w.heap[m]? =some (.map (entsI (kvG os)) os.length)
 rows:Rows6 w (m+1) (os.map Prod.snd)
theorem GrpS.lt{w:World}{m:Nat}{os:List GEl}(h:GrpS w m os):m<w.heap.size:=(Array.getElem?_eq_some_iff.1 h.blk).1
theorem GrpS.keep{w w':World}{m:Nat}{os:List GEl}(h:GrpS w m os)(hb:Below w.heap.size w w'):GrpS w' m os:=
 ⟨(hb.block m h.lt).trans h.blk,h.rows.keep fun q _ hq=>hb.block q hq⟩
theorem heap_put{w:World}{m b:Nat}{o:Obj}(h:b≠m):({w with heap:=w.heap.setIfInBounds m o}:World).heap[b]? =w.heap[b]? :=by
 simp only[Array.getElem?_setIfInBounds];rw[if_neg (fun e=>h e.symm)]
theorem heap_put_same{w:World}{m:Nat}{o:Obj}(h:m<w.heap.size):({w with heap:=w.heap.setIfInBounds m o}:World).heap[m]? =some o:=by
 simp[Array.getElem?_setIfInBounds,h]
theorem below_put{B:Nat}{W w:World}{m:Nat}{o:Obj}(h:Below B W w)(hm:B<=m):Below B W {w with heap:=w.heap.setIfInBounds m o}:=
 h.trans ⟨rfl,rfl,rfl,by simp,fun k hk=>heap_put (by omega)⟩
theorem GrpS.entry {w : World} {m : Nat} {os : List GEl} {cs : List C} (h : GrpS w m os) (hg : IsGrp cs (fun i => i ∈ cs.map idC) (glG os)) (i : Id2) :
    ∃ (os1 : List GEl) (q : Nat) (ls : List La) (v : Value) (w1 : World), (Instr.mapEntry 54 (.map (some m)) (idV i)).run Tryz.prog w = .ok (.tuple #[v, goInt q]) w1 ∧ GrpS w1 m os1 ∧ os1[q]? = some (i, ls, v) ∧ IsGrp cs (fun j => j ∈ cs.map idC ∨ j = i) (glG os1) ∧ os1.length <= os.length + 1 ∧ w1.heap.size = w.heap.size ∧ (∀ b, b ≠ m -> w1.heap[b]? = w.heap[b]?) ∧ Below m w w1 := by
  have hkl : (kvG os).length = os.length := by simp [kvG]
  have hblk : w.heap[m]? = some (.map (entsI (kvG os)) (kvG os).length) := by rw [hkl]; exact h.blk
  by_cases hi : ∀ p ∈ os, p.1 ≠ i
  · have e := run_entry_new hblk (i := i) (fun p hp => by
      obtain ⟨q, hq, rfl⟩ := List.mem_map.1 hp
      exact hi q hq)
    rw [hkl] at e
    refine ⟨os ++ [(i, [], .slice none 0 0)], os.length, [], .slice none 0 0, _, e, ⟨?_, ?_⟩, by simp, ?_, by simp, by simp, fun b hb => heap_put hb, below_put (Below.refl _ _) (Nat.le_refl _)⟩
    · rw [heap_put_same h.lt]; simp [kvG]
    · rw [List.map_append]
      exact h.rows.nil.keep fun q hq _ => heap_put (by omega)
    · have := hg.fresh (i := i) (fun p hp => by
        obtain ⟨q, hq, rfl⟩ := List.mem_map.1 hp
        exact hi q hq)
      simpa [glG] using this
  · have hi' : ∃ p ∈ os, p.1 = i := by
      apply Classical.byContradiction
      intro h'
      exact hi fun p hp e => h' ⟨p, hp, e⟩
    obtain ⟨p, hp, rfl⟩ := hi'
    obtain ⟨q, hq⟩ := List.mem_iff_getElem?.1 hp
    have hn : ((kvG os).map Prod.fst).Nodup := by
      have := hg.1
      simpa [kvG, glG, Function.comp_def] using this
    have e := run_entry_old hblk (i := p.1) (v := p.2.2) (q := q) hn (by simp [kvG, hq])
    rw [hkl] at e
    refine ⟨os, q, p.2.1, p.2.2, _, e, ⟨?_, ?_⟩, hq, hg.known ⟨(p.1, p.2.1), List.mem_map.2 ⟨p, hp, rfl⟩, rfl⟩, by omega, by simp, fun b hb => heap_put hb, below_put (Below.refl _ _) (Nat.le_refl _)⟩
    · rw [heap_put_same h.lt]
    · exact h.rows.keep fun q hq _ => heap_put (by omega)
theorem GrpS.store{w wa w1:World}{m q:Nat}{os:List GEl}{cs:List C}{c:C}{ls:List La}{v v':Value}(h:GrpS w m os)(hg:IsGrp cs (fun j=>j∈cs.map idC∨j=idC c) (glG os))(hq:os[q]? =some (idC c,ls,v))(ha:w.heap.size<=wa.heap.size)(hk:∀b,b<w.heap.size->wa.heap[b]? =w.heap[b]?)
 (hgr:wa.grownBy w1 v.ownBlock)(ho:w1.ownsRow (m+1) 71 6 v' (ls.length+1) (ls.flatMap xs6++xs6 c.args))(hat:v'.ownBlock=v.ownBlock∨∃g,v'.ownBlock=some g∧wa.heap.size<=g):
 ∃w2,(Instr.entryStore 54 (.map (some m)) (goInt q) v').run Tryz.prog w1=.ok () w2∧GrpS w2 m (os.set q (idC c,ls++[c.args],v'))∧IsGrp (cs++[c]) (fun i=>i∈(cs++[c]).map idC) (glG (os.set q (idC c,ls++[c.args],v')))∧Below m w1 w2:=by
 have hkl:(kvG os).length=os.length:=by simp[kvG]
 have hmv:some m≠v.ownBlock:=fun e=>by
  have:=((h.rows.own (ls,v) (List.mem_map.2 ⟨_,List.mem_of_getElem? hq,rfl⟩)).lt m e.symm).1
  omega
 have hlt:=h.lt
 have hblk:w1.heap[m]? =some (.map (entsI (kvG os)) (kvG os).length):=by
  rw[hgr.block m (by omega) hmv,hk m hlt,hkl];exact h.blk
 have hm1:m<w1.heap.size:=(Array.getElem?_eq_some_iff.1 hblk).1
 have e:=run_store hblk (i:=idC c) (v:=v) (v':=v') (q:=q) (by simp[kvG,hq])
 rw[hkl]at e
 refine⟨_,e,⟨?_,?_⟩,?_,below_put (Below.refl _ _) (Nat.le_refl _)⟩
 ·rw[heap_put_same hm1];simp[kvG,List.map_set]
 ·have:=h.rows.put (q:=q) (ls:=ls) (v:=v) (ls':=ls++[c.args]) (v':=v') (wa:=wa) (w1:=w1) (by simp[hq]) ha (fun b _ hb=>hk b hb) hgr (by simpa using ho) hat
  rw[List.map_set]
  exact this.keep fun q hq _=>heap_put (by omega)
 ·have:=hg.put (q:=q) (ls:=ls) (by simp[glG,hq])
  simpa[glG,List.map_set]using this
end Go.Proofs.YtddemlfepjkgoaaGreat
