import Derived.ProofKit
import Derived.OpenShut
import Derived.ShutString
import Derived.ChangeOld
import Derived.Deep.Slices
import Derived.Laws.BytesArg
import Derived.Laws.Shifts
import Derived.RegionDies
import Derived.ArgAppend
import Derived.Test.YtddemlfepjkgoaaGreatQ47
set_option linter.all false
set_option maxRecDepth 200000
set_option maxHeartbeats 16000000
namespace Go.Proofs.YtddemlfepjkgoaaGreat
def callOf(vs:List Int):Option C:=if vs.getD 0 0<=4294967295∧vs.getD 1 0<=4294967295 then some ⟨vs.getD 0 0,vs.getD 1 0,vs.drop 2⟩else none
def callB(b:List Int):Option C:=(numsL 8 b).bind callOf
def frameR(n:Nat)(l:List Int):(Int×Nat)⊕(C×List Int):=
 if l=[]then .inl (5,n)
 else if l.getD 0 0<8∨70<l.getD 0 0 then .inl (6,n-l.length)
 else if l.length<1+(l.getD 0 0).toNat+4 then .inl (5,n)
 else if littleL (sumL ((l.drop 1).take (l.getD 0 0).toNat)) 4≠(l.drop (1+(l.getD 0 0).toNat)).take 4 then .inl (7,n-l.length+1+(l.getD 0 0).toNat)
 else match callB ((l.drop 1).take (l.getD 0 0).toNat)with
  |none=>.inl (8,n-l.length+1)
  |some c=>.inr (c,l.drop (1+(l.getD 0 0).toNat+4))
def framesR(n:Nat):Nat->List Int->(Int×Nat)⊕(List C×List Int)
 |0,l=>.inr ([],l)
 |k+1,l=>match frameR n l with
  |.inl f=>.inl f
  |.inr q=>match framesR n k q.2 with
   |.inl f=>.inl f
   |.inr t=>.inr (q.1::t.1,t.2)
def finR(n:Nat)(cs:List C):(Int×Nat)⊕(List C×List Int)->List C×Int×Nat
 |.inl f=>([],f.1,f.2)
 |.inr t=>if t.2=[]then(cs++t.1,0,0)else([],9,n-t.2.length)
def headR(b:List Int):Option (Int×Nat):=
 if b.length<7 then some (5,b.length)
 else if b.getD 0 0≠67 then some (2,0)
 else if b.getD 1 0≠76 then some (2,1)
 else if b.getD 2 0≠79 then some (2,2)
 else if b.getD 3 0≠71 then some (2,3)
 else if b.getD 4 0≠1 then some (3,4)
 else if 1000<b.getD 5 0+256*b.getD 6 0 then some (4,5)
 else none
def countR(b:List Int):Nat:=(b.getD 5 0+256*b.getD 6 0).toNat
def decLog(b:List Int):List C×Int×Nat:=match headR b with
 |some f=>([],f.1,f.2)
 |none=>finR b.length [] (framesR b.length (countR b) (b.drop 7))
theorem framesR_good{n k:Nat}{l r:List Int}{cs:List C}{c:C}(h:frameR n l=.inr (c,r)):finR n cs (framesR n (k+1) l)=finR n (cs++[c]) (framesR n k r):=by
 simp only[framesR,h]
 cases framesR n k r with
 |inl f=>rfl
 |inr t=>simp only[finR];split<;>simp
end Go.Proofs.YtddemlfepjkgoaaGreat
namespace Go.Proofs.YtddemlfepjkgoaaGreat
open Go.ChangeShapes Go.WideShapes Go.ChangeAt Go.RowKit Go.Deep
theorem own:ownKnob Tryz.prog.godebug=none:=by kernel_rfl
theorem laidOut:laidOutB Tryz.prog=true:=by kernel_rfl
theorem cell_lt{w:World}{a:Addr}{v:Value}(h:w.cell? a=some v):a.block<w.heap.size:=by
 by_cases hb:a.block<w.heap.size
 ·exact hb
 exfalso;simp[World.cell?,Array.getElem?_eq_none (show w.heap.size<=a.block by omega)]at h
end Go.Proofs.YtddemlfepjkgoaaGreat
namespace Go.Proofs.YtddemlfepjkgoaaGreat
open Go.RowKit
open Go.ChangeShapes Go.WideShapes Go.ChangeAt Go.Deep in
theorem open_bytes{H:Type}{enc:TypeId×Value->H}{W:World}{a:Option Addr}{len cap:Nat}{d:DataW H}{ps:List MemPlace}
 (h:DataW.Trod enc Tryz.prog W 0 (fun _=>true) true 22 (.slice a len cap) d ps):
 ∃l:List Int,l.length=len∧len<=maxLen∧len<=cap∧BSrc W a l∧isBytes l:=by
 obtain⟨fuel,hf⟩:=h
 rcases open_ints Tryz.underlying22 Tryz.underlying5 (by kernel_rfl) hf with⟨hcs,_⟩|⟨x,l,c,zs,hcs,_,hl,hm,hz,_,hcell,hwz⟩
 ·simp[Value.cells]at hcs
  obtain⟨rfl,rfl,rfl⟩:=hcs
  exact⟨[],rfl,by simp,by simp,.inl rfl,fun x hx=>by simp at hx⟩
 ·simp[Value.cells]at hcs
  obtain⟨rfl,rfl,rfl⟩:=hcs
  have hzl:zs.length=cap:=by simpa using hz
  have hlen:(zs.take len).length=len:=by simp;omega
  refine⟨zs.take len,hlen,by omega,hl,?_,fun y hy=> ?_⟩
  ·by_cases h0:len=0
   ·subst h0;exact .inl (by simp)
   ·have hc0:=hcell 0 (by omega)
    have hspot:x.spot=none:=by simpa[Addr.add]using World.cell?_spot hc0
    have hlt:x.block<W.heap.size:=by simpa[Addr.add]using cell_lt hc0
    obtain⟨b,o,sp⟩:=x
    simp only at hspot
    subst hspot
    refine .inr ⟨b,o,rfl,hlt,fun i hi=> ?_⟩
    have hi':i<len:=by omega
    have hc:=hcell i (by omega)
    rw[add_at]at hc
    rw[hc]
    simp[List.getD_eq_getElem?_getD,hi']
  ·have:=bounds_u8 (hwz y (List.mem_of_mem_take hy))
   omega
theorem rows_apart{w:World}{B B' t t' s s' n n':Nat}{v v':Value}{xs xs':List Value}(h:w.ownsRow B t s v n xs)(h':w.ownsRow B' t' s' v' n' xs')(hne:t≠t'):v.ownBlock=none∨v.ownBlock≠v'.ownBlock:=by
 rcases h.2 with⟨rfl,_⟩|⟨g,cap,cur,rfl,_,hg,_⟩
 ·exact .inl rfl
 rcases h'.2 with⟨rfl,_⟩|⟨g',cap',cur',rfl,_,hg',_⟩
 ·exact .inr (by simp[Value.ownBlock])
 refine .inr ?_;simp only[Value.ownBlock,ne_eq,Option.some.injEq];rintro rfl;rw[hg]at hg';simp at hg';exact hne hg'.2
structure PcsS(w:World)(B:Nat)(out:Value)(vs:List Value)(ps:List (List Int)):Prop where
 row:w.ownsRow B 22 1 out vs.length vs
 len:vs.length=ps.length
 pcs:∀i,i<ps.length->owns w B (vs.getD i undef) (ps.getD i [])
theorem PcsS.kept{w w1:World}{B:Nat}{out:Value}{vs:List Value}{ps:List (List Int)}{r:Option Nat}(h:PcsS w B out vs ps)(hg:w.grownBy w1 r)(ho:out.ownBlock=none∨out.ownBlock≠r)(hp:∀i,i<ps.length->(vs.getD i undef).ownBlock=none∨(vs.getD i undef).ownBlock≠r):PcsS w1 B out vs ps:=
 ⟨World.ownsRow.kept h.row hg ho,h.len,fun i hi=>World.ownsRow.kept (h.pcs i hi) hg (hp i hi)⟩
theorem PcsS.below{w w1:World}{B:Nat}{out:Value}{vs:List Value}{ps:List (List Int)}(h:PcsS w B out vs ps)(hb:Below w.heap.size w w1):PcsS w1 B out vs ps:=
 h.kept (r:=none) ⟨hb.os,hb.tape,hb.output,hb.size,fun k hk _=>hb.block k hk⟩ (by cases out.ownBlock<;>simp) (fun i hi=>by cases(vs.getD i undef).ownBlock<;>simp)
structure CbS(W:World)(D:Nat)(ws:List Int)(v:Value):Prop where
 box:Box3 W D (.int .u32 (ws.getD 0 0)) (.int .u32 (ws.getD 1 0)) v
 own:ownsU W (D+1) v (ws.drop 2)
 u64:∀x∈ws,isU64 x
 b0:ws.getD 0 0<=4294967295
 b1:ws.getD 1 0<=4294967295
theorem CbS.below{W W1:World}{D:Nat}{ws:List Int}{v:Value}(h:CbS W D ws v)(hb:Below W.heap.size W W1):CbS W1 D ws v:=
 ⟨h.box.keep hb,ownsU_below h.own hb,h.u64,h.b0,h.b1⟩
theorem CbS.first{W:World}{D:Nat}{x:Int}{v:Value}(h:CbS W D [] v)(hx:isU64 x)(hb:x<=4294967295):CbS (W.setCell ⟨D,0,none⟩ (.int .u32 x)) D ([]++[x]) v:=
 ⟨h.box.set0 _,ownsU_setD h.own,fun y hy=>by simp at hy;subst hy;exact hx,by simpa using hb,by simp⟩
theorem CbS.more{W W1:World}{D:Nat}{ws:List Int}{x:Int}{v v':Value}{o:Obj}(h:CbS W D ws v)(hl:2<=ws.length)(hx:isU64 x)(hg:(W.alloc o).grownBy W1 v.ownBlock)(ho:ownsU W1 (D+1) v' (ws.drop 2++[x])):CbS (W1.setCell ⟨D,2,none⟩ v') D (ws++[x]) v':=by
 match ws,hl with
 |a::b::r,hl=>
  have hb:Below (D+1) W W1:=((Below.refl _ _).alloc h.box.lt o).grown hg (by have:=h.box.lt;simp;omega) (fun q hq=>(h.own.lt q hq).1);have hB:Box3 W1 D (.int .u32 a) (.int .u32 b) v:=Box3.keepB (by simpa using h.box) hb (by omega);refine⟨by simpa using hB.set2 v',ownsU_setD (by simpa using ho),fun y hy=> ?_,by simpa using h.b0,by simpa using h.b1⟩;rcases List.mem_append.1 hy with h1|h1
  ·exact h.u64 y h1
  simp at h1;subst h1;exact hx
theorem PcsS.at{w:World}{B:Nat}{out:Value}{vs:List Value}{ps:List (List Int)}(h:PcsS w B out vs ps)(h0:0<vs.length):∃G cap,out=.slice (some ⟨G,0,none⟩) vs.length cap∧G<w.heap.size∧∀i,i<vs.length->w.cell? ⟨G,i,none⟩=some (vs.getD i undef):=by
 rcases h.row.2 with⟨_,h2⟩|⟨g,cap,cur,h1,_,hg,_,_,_,hx⟩
 ·omega
 refine⟨g,cap,h1,(Array.getElem?_eq_some_iff.1 hg).1,fun i hi=> ?_⟩;have e:(cur.toList.take (vs.length*1))[i]? =some (vs.getD i undef):=by
  rw[hx,List.getElem?_eq_getElem hi,List.getD_eq_getElem?_getD,List.getElem?_eq_getElem hi];rfl
 rw[List.getElem?_take,if_pos (by omega)]at e;simp only[World.cell?,hg];simpa using e
structure Far(w w':World)(S:Nat->Prop):Prop where
 os:w'.os=w.os
 tape:w'.tape=w.tape
 output:w'.output=w.output
 size:w.heap.size<=w'.heap.size
 block:∀q,q<w.heap.size->¬S q->w'.heap[q]? =w.heap[q]?
theorem Far.refl(w:World)(S:Nat->Prop):Far w w S:=⟨rfl,rfl,rfl,Nat.le_refl _,fun _ _ _=>rfl⟩
theorem Far.trans{w w1 w2:World}{S:Nat->Prop}(h:Far w w1 S)(h':Far w1 w2 S):Far w w2 S:=
 ⟨h'.os.trans h.os,h'.tape.trans h.tape,h'.output.trans h.output,Nat.le_trans h.size h'.size,fun q hq hS=>(h'.block q (Nat.lt_of_lt_of_le hq h.size) hS).trans (h.block q hq hS)⟩
theorem Far.grown{w w1:World}{S:Nat->Prop}{r:Option Nat}(h:w.grownBy w1 r)(hr:∀q,r=some q->S q):Far w w1 S:=
 ⟨h.os,h.tape,h.output,h.size,fun q hq hS=>h.block q hq (fun e=>hS (hr q e.symm))⟩
theorem Far.set{w w1:World}{S:Nat->Prop}(h:Far w w1 S)(D j:Nat)(v:Value)(hD:S D):Far w (w1.setCell ⟨D,j,none⟩ v) S:=
 h.trans (Far.grown (grown_setCell (World.grownBy.refl w1 (some D)) j v) (fun q hq=>by have:D=q:=by simpa using hq
                                                                                       subst this;exact hD))
theorem row_block{w w1:World}{base t s n:Nat}{v:Value}{xs:List Value}(h:w.ownsRow base t s v n xs)(e:∀q,v.ownBlock=some q->w1.heap[q]? =w.heap[q]?):w1.ownsRow base t s v n xs:=by
 obtain⟨h0,h|⟨g,cap,cur,rfl,hb,hg,hr⟩⟩:=h
 ·exact⟨h0,.inl h⟩
 exact⟨h0,.inr ⟨g,cap,cur,rfl,hb,(e g (by simp[Value.ownBlock])).trans hg,hr⟩⟩
theorem MarkedU.keep{w w1:World}{v:Value}{n:Nat}{k:Int}(h:MarkedU w v n k)(e:∀q,v.ownBlock=some q->w1.heap[q]? =w.heap[q]?):MarkedU w1 v n k:=by
 rcases h with h|⟨g,cap,rfl,hc,f,hr,hf⟩
 ·exact .inl h
 exact .inr ⟨g,cap,rfl,hc,f,hr.of_block (e g (by simp[Value.ownBlock])),hf⟩
def kN(cs:List C)(k:Int)(j:Nat):Int:=k+2*j+tot (cs.take j)
structure MidC(w:World)(D N:Nat)(vs:Nat->Value)(cs:List C)(k:Int)(i:Nat):Prop where
 row:∃f,w.rowIs D 39 (N*3) f∧(∀j,j<i->f (j*3)=.int .u32 (kN cs k j)∧f (j*3+1)=.int .u32 (kN cs k j+1))∧∀j,j<cs.length->f (j*3+2)=vs j
 le:cs.length<=N
 done:∀j,j<i->MarkedU w (vs j) (cs.getD j C.zero).args.length (kN cs k j+2)
 left:∀j,i<=j->j<cs.length->ownsU w (D+1) (vs j) (cs.getD j C.zero).args
 gt:∀j q,j<cs.length->(vs j).ownBlock=some q->D<q
 inc:∀i j p q,i<j->j<cs.length->(vs i).ownBlock=some p->(vs j).ownBlock=some q->p<q
theorem MidC.start{w:World}{D N:Nat}{vs:Nat->Value}{cs:List C}(h:OwnC w D N vs cs)(k:Int):MidC w D N vs cs k 0:=by
 obtain⟨f,hr,hf⟩:=h.row;exact⟨⟨f,hr,fun j hj=>by omega,fun j hj=>(hf j hj).2.2⟩,h.le,fun j hj=>by omega,fun j _ hj=>h.own j hj,fun j q hj hq=>by have:=((h.own j hj).lt q hq).1;omega,h.inc⟩
structure RdB(w:World)(R b:Nat)(l:List Int)(st:Int)(o cap:Nat):Prop where
 c0:w.cell? ⟨R,0,none⟩=some (.slice (some ⟨b,o,none⟩) l.length cap)
 c1:w.cell? ⟨R,1,none⟩=some (.int .i64 st)
 f0:w.frozen? ⟨R,0,none⟩=false
 src:BytesAt w b o l
 cap:l.length<cap
theorem Far.drew{w w1:World}{S:Nat->Prop}(h:Far w w1 S):Far w w1.drew S:=⟨h.os,h.tape,h.output,h.size,h.block⟩
theorem BytesAt.tail{w:World}{b o:Nat}{y:Int}{r:List Int}(h:BytesAt w b o (y::r)):w.cell? ⟨b,o,none⟩=some (.int .u8 y)∧BytesAt w b (o+1) r:=by
 refine⟨by have:=h 0 (by simp);simpa using this,fun i hi=> ?_⟩;have:=h (i+1) (by simp;omega);rw[show o+1+i=o+(i+1)by omega];simpa using this
theorem BytesAt.set{w:World}{b o R i:Nat}{v:Value}{l:List Int}(h:BytesAt w b o l)(hne:R≠b):BytesAt (w.setCell ⟨R,i,none⟩ v) b o l:=fun j hj=>by
 have e:(w.setCell ⟨R,i,none⟩ v).cell? ⟨b,o+j,none⟩=w.cell? ⟨b,o+j,none⟩:=by
  apply World.cell?_setCell_other;intro e;apply hne;injection e
 rw[e];exact h j hj
theorem cell_at1{w:World}{R:Nat}{v x:Value}(h:w.cell? ⟨R,1,none⟩=some x):(w.setCell ⟨R,0,none⟩ v).cell? ⟨R,1,none⟩=some x:=by
 have e:(w.setCell ⟨R,0,none⟩ v).cell? ⟨R,1,none⟩=w.cell? ⟨R,1,none⟩:=by
  apply World.cell?_setCell_other;intro e;injection e with e1 e2;cases e2
 rw[e];exact h
theorem RdB.drew{w:World}{R b:Nat}{l:List Int}{st:Int}{o cap:Nat}(h:RdB w R b l st o cap):RdB w.drew R b l st o cap:=⟨h.c0,h.c1,h.f0,h.src,h.cap⟩
theorem RdB.next{w:World}{R b:Nat}{y:Int}{r:List Int}{st:Int}{o cap:Nat}(h:RdB w R b (y::r) st o cap)(hne:R≠b):RdB (w.setCell ⟨R,0,none⟩ (.slice (some ⟨b,o+1,none⟩) r.length (cap-1))) R b r st (o+1) (cap-1):=by
 have hc:=h.cap;simp only[List.length_cons]at hc;exact⟨World.cell?_setCell_same _ _ _ h.c0,cell_at1 h.c1,by rw[World.frozen?_setCell];exact h.f0,h.src.tail.2.set hne,by omega⟩
theorem cell_ltD{w:World}{a:Addr}{v:Value}(h:w.cell? a=some v):a.block<w.heap.size:=by
 rcases Nat.lt_or_ge a.block w.heap.size with h1|h1
 ·exact h1
 simp[World.cell?,Array.getElem?_eq_none h1]at h
theorem cell_blkD{w w1:World}{b o:Nat}{v:Value}(h:w.cell? ⟨b,o,none⟩=some v)(e:w1.heap[b]? =w.heap[b]?):w1.cell? ⟨b,o,none⟩=some v:=by
 simp only[World.cell?,e]at h⊢;exact h
theorem frz_blkD{w w1:World}{b o:Nat}(h:w.frozen? ⟨b,o,none⟩=false)(e:w1.heap[b]? =w.heap[b]?):w1.frozen? ⟨b,o,none⟩=false:=by
 simp only[World.frozen?,e]at h⊢;exact h
theorem UptoU.blk{w w1:World}{D n k:Nat}{l:List Int}(h:UptoU w D n l k)(e:w1.heap[D]? =w.heap[D]?):UptoU w1 D n l k:=by
 obtain⟨f,⟨c,h1,h2⟩,hf⟩:=h;exact⟨f,⟨c,e.trans h1,h2⟩,hf⟩
theorem UptoU.more{w:World}{D n:Nat}{l:List Int}(v:Int)(h:UptoU w D n l l.length):UptoU w D n (l++[v]) l.length:=by
 obtain⟨f,h1,hf⟩:=h;refine⟨f,h1,fun j hj=> ?_⟩;rw[hf j hj,List.getD_eq_getElem?_getD,List.getD_eq_getElem?_getD,List.getElem?_append_left hj]
theorem set_blkD{w:World}{F i:Nat}{x:Value}{q:Nat}(h:q≠F):(w.setCell ⟨F,i,none⟩ x).heap[q]? =w.heap[q]? :=by
 simp only[World.setCell,Array.getElem?_modify];rw[if_neg (fun e=>h e.symm)]
theorem Far.setNew{w w1:World}{S:Nat->Prop}(h:Far w w1 S){D j:Nat}{v:Value}(hD:w.heap.size<=D):Far w (w1.setCell ⟨D,j,none⟩ v) S:=
 ⟨h.os,h.tape,h.output,by simp[World.setCell];exact h.size,fun q hq hS=>(set_blkD (by omega)).trans (h.block q hq hS)⟩
theorem Far.below{w w1 w2:World}{S:Nat->Prop}(h:Far w w1 S)(hb:Below w1.heap.size w1 w2):Far w w2 S:=
 ⟨hb.os.trans h.os,hb.tape.trans h.tape,hb.output.trans h.output,Nat.le_trans h.size hb.size,fun q hq hS=>(hb.block q (Nat.lt_of_lt_of_le hq h.size)).trans (h.block q hq hS)⟩
theorem Far.alloc{w w1:World}{S:Nat->Prop}(h:Far w w1 S)(x:Obj):Far w (w1.alloc x) S:=h.below ((Below.refl _ _).alloc (Nat.le_refl _) x)
theorem BytesAt.blk{w w1:World}{b o:Nat}{l:List Int}(h:BytesAt w b o l)(e:w1.heap[b]? =w.heap[b]?):BytesAt w1 b o l:=fun i hi=>cell_blkD (h i hi) e
structure BcS(w W:World)(R b:Nat)(st:Int)(l:List Int)(o cp:Nat)(ar nr:Int)(vs:List Int):Prop where
 rd:RdB W R b l st o cp
 fr:Far w W (fun q=>q=R)
 c0:W.cell? ⟨w.heap.size+2,0,none⟩=some (.int .u32 ar)
 c1:W.cell? ⟨w.heap.size+2,1,none⟩=some (.int .u32 nr)
 c2:W.cell? ⟨w.heap.size+2,2,none⟩=some (.slice (some ⟨w.heap.size+1,0,none⟩) 6 6)
 f:∀i,W.frozen? ⟨w.heap.size+2,i,none⟩=false
 z:∀i,i<3->∃x,W.cell? ⟨w.heap.size,i,none⟩=some x
 zf:∀i,W.frozen? ⟨w.heap.size,i,none⟩=false
 up:UptoU W (w.heap.size+1) 6 vs vs.length
theorem BcS.drew{w W:World}{R b:Nat}{st:Int}{l:List Int}{o cp:Nat}{ar nr:Int}{vs:List Int}(h:BcS w W R b st l o cp ar nr vs):BcS w W.drew R b st l o cp ar nr vs:=
 ⟨h.rd.drew,h.fr.drew,h.c0,h.c1,h.c2,h.f,h.z,h.zf,h.up⟩
theorem BcS.far{w W W1:World}{R b:Nat}{st:Int}{l l1:List Int}{o cp o1 cp1:Nat}{ar nr:Int}{vs:List Int}(h:BcS w W R b st l o cp ar nr vs)(hF:Far W W1 (fun q=>q=R))(hR:RdB W1 R b l1 st o1 cp1)(hRw:R<w.heap.size):BcS w W1 R b st l1 o1 cp1 ar nr vs:=by
 have hlt:w.heap.size+2<W.heap.size:=cell_ltD h.c0;have k2:=hF.block (w.heap.size+2) hlt (fun e=>by omega);have k1:=hF.block (w.heap.size+1) (by omega) (fun e=>by omega);have k0:=hF.block w.heap.size (by omega) (fun e=>by omega);exact⟨hR,h.fr.trans hF,cell_blkD h.c0 k2,cell_blkD h.c1 k2,cell_blkD h.c2 k2,fun i=>frz_blkD (h.f i) k2,fun i hi=>by obtain⟨x,hx⟩:=h.z i hi;exact⟨x,cell_blkD hx k0⟩,fun i=>frz_blkD (h.zf i) k0,h.up.blk k1⟩
theorem cell_farD{w:World}{D i b o:Nat}{v x:Value}(hne:b≠D)(h:w.cell? ⟨b,o,none⟩=some x):(w.setCell ⟨D,i,none⟩ v).cell? ⟨b,o,none⟩=some x:=cell_blkD h (set_blkD hne)
theorem cell_nearD{w:World}{D i o:Nat}{v x:Value}(hne:i≠o)(h:w.cell? ⟨D,o,none⟩=some x):(w.setCell ⟨D,i,none⟩ v).cell? ⟨D,o,none⟩=some x:=by
 have e:(w.setCell ⟨D,i,none⟩ v).cell? ⟨D,o,none⟩=w.cell? ⟨D,o,none⟩:=by
  apply World.cell?_setCell_other;intro e;apply hne;injection e
 rw[e];exact h
theorem RdB.setNew{w:World}{R b:Nat}{l:List Int}{st:Int}{o cap:Nat}(h:RdB w R b l st o cap){D i:Nat}{v:Value}(h1:R≠D)(h2:b≠D):RdB (w.setCell ⟨D,i,none⟩ v) R b l st o cap:=
 ⟨cell_farD h1 h.c0,cell_farD h1 h.c1,by rw[World.frozen?_setCell];exact h.f0,h.src.blk (set_blkD h2),h.cap⟩
theorem BcS.setA{w W:World}{R b:Nat}{st:Int}{l:List Int}{o cp:Nat}{ar nr:Int}{vs:List Int}(h:BcS w W R b st l o cp ar nr vs)(hR:R<w.heap.size)(hb:b<w.heap.size)(v:Int):BcS w (W.setCell ⟨w.heap.size+2,0,none⟩ (.int .u32 v)) R b st l o cp v nr vs:=
 ⟨h.rd.setNew (by omega) (by omega),h.fr.setNew (by omega),World.cell?_setCell_same _ _ _ h.c0,cell_nearD (by omega) h.c1,cell_nearD (by omega) h.c2,fun i=>by rw[World.frozen?_setCell];exact h.f i,fun i hi=>by obtain⟨x,hx⟩:=h.z i hi;exact⟨x,cell_farD (by omega) hx⟩,fun i=>by rw[World.frozen?_setCell];exact h.zf i,h.up.blk (set_blkD (by omega))⟩
theorem BcS.start{w:World}{R b:Nat}{l:List Int}{st:Int}{o cap:Nat}(h:RdB w R b l st o cap)(hb:b<w.heap.size)(hR:R<w.heap.size):
 BcS w (((w.alloc (.cells #[.int .u32 0,.int .u32 0,.slice none 0 0] 39)).alloc (.cells (madeCells #[.int .u64 0] 6) 69)).alloc (.cells #[.int .u32 0,.int .u32 0,.slice (some ⟨w.heap.size+1,0,none⟩) 6 6] 39)) R b st l o cap 0 0 []:=by
 have e1:(w.alloc (.cells #[.int .u32 0,.int .u32 0,.slice none 0 0] 39)).heap.size=w.heap.size+1:=by simp
 have e2:((w.alloc (.cells #[.int .u32 0,.int .u32 0,.slice none 0 0] 39)).alloc (.cells (madeCells #[.int .u64 0] 6) 69)).heap.size=w.heap.size+2:=by simp
 have b1:Below w.heap.size w (w.alloc (.cells #[.int .u32 0,.int .u32 0,.slice none 0 0] 39)):=(Below.refl _ _).alloc (Nat.le_refl _) _;have b2:=(Below.refl (w.alloc (.cells #[.int .u32 0,.int .u32 0,.slice none 0 0] 39)).heap.size (w.alloc (.cells #[.int .u32 0,.int .u32 0,.slice none 0 0] 39))).alloc (Nat.le_refl _) (.cells (madeCells #[.int .u64 0] 6) 69);have b3:=(Below.refl ((w.alloc (.cells #[.int .u32 0,.int .u32 0,.slice none 0 0] 39)).alloc (.cells (madeCells #[.int .u64 0] 6) 69)).heap.size ((w.alloc (.cells #[.int .u32 0,.int .u32 0,.slice none 0 0] 39)).alloc (.cells (madeCells #[.int .u64 0] 6) 69))).alloc (Nat.le_refl _) (.cells #[.int .u32 0,.int .u32 0,.slice (some ⟨w.heap.size+1,0,none⟩) 6 6] 39);have F:Far w (((w.alloc (.cells #[.int .u32 0,.int .u32 0,.slice none 0 0] 39)).alloc (.cells (madeCells #[.int .u64 0] 6) 69)).alloc (.cells #[.int .u32 0,.int .u32 0,.slice (some ⟨w.heap.size+1,0,none⟩) 6 6] 39)) (fun q=>False):=(((Far.refl w _).below b1).below b2).below b3;have kR:=F.block R hR (fun h=>h);have kb:=F.block b hb (fun h=>h);have U:=World.rowIs_made (w.alloc (.cells #[.int .u32 0,.int .u32 0,.slice none 0 0] 39)) (.int .u64 0) 6 69;rw[e1]at U;have U1:UptoU ((w.alloc (.cells #[.int .u32 0,.int .u32 0,.slice none 0 0] 39)).alloc (.cells (madeCells #[.int .u64 0] 6) 69)) (w.heap.size+1) 6 [] 0:=⟨_,U,fun j hj=>by omega⟩;have HH:(((w.alloc (.cells #[.int .u32 0,.int .u32 0,.slice none 0 0] 39)).alloc (.cells (madeCells #[.int .u64 0] 6) 69)).alloc (.cells #[.int .u32 0,.int .u32 0,.slice (some ⟨w.heap.size+1,0,none⟩) 6 6] 39)).heap[w.heap.size+2]? =some (.cells #[.int .u32 0,.int .u32 0,.slice (some ⟨w.heap.size+1,0,none⟩) 6 6] 39):=by
  have h:=heap_alloc_new ((w.alloc (.cells #[.int .u32 0,.int .u32 0,.slice none 0 0] 39)).alloc (.cells (madeCells #[.int .u64 0] 6) 69)) (.cells #[.int .u32 0,.int .u32 0,.slice (some ⟨w.heap.size+1,0,none⟩) 6 6] 39);rw[e2]at h;exact h
 refine⟨⟨cell_blkD h.c0 kR,cell_blkD h.c1 kR,frz_blkD h.f0 kR,h.src.blk kb,h.cap⟩,⟨F.os,F.tape,F.output,F.size,fun q hq _=>F.block q hq (fun h=>h)⟩,?_,?_,?_,?_,?_,?_,?_⟩
 ·unfold World.cell?;simp only[HH];rfl
 ·unfold World.cell?;simp only[HH];rfl
 ·unfold World.cell?;simp only[HH];rfl
 ·intro i;unfold World.frozen?;simp only[HH];simp
 ·intro i hi;have hz:∃x,(w.alloc (.cells #[.int .u32 0,.int .u32 0,.slice none 0 0] 39)).cell? ⟨w.heap.size,i,none⟩=some x:=by
   rcases i with _|_|_|i
   ·exact⟨_,by simp;rfl⟩
   ·exact⟨_,by simp;rfl⟩
   ·exact⟨_,by simp;rfl⟩
   omega
  obtain⟨x,hx⟩:=hz;have h1:=cell_blkD hx (b2.block w.heap.size (by rw[e1];omega));exact⟨x,cell_blkD h1 (b3.block w.heap.size (by rw[e2];omega))⟩
 ·intro i;have h1:(w.alloc (.cells #[.int .u32 0,.int .u32 0,.slice none 0 0] 39)).frozen? ⟨w.heap.size,i,none⟩=false:=by simp
  exact frz_blkD (frz_blkD h1 (b2.block w.heap.size (by rw[e1];omega))) (b3.block w.heap.size (by rw[e2];omega))
 exact U1.blk (b3.block (w.heap.size+1) (by rw[e2];omega))
theorem BcS.own{w W:World}{R b:Nat}{st:Int}{l:List Int}{o cp:Nat}{ar nr:Int}{vs:List Int}(h:BcS w W R b st l o cp ar nr vs)(h6:vs.length=6):ownsU W (w.heap.size+1) (.slice (some ⟨w.heap.size+1,0,none⟩) 6 6) vs:=by
 have hu:=h.up;have:UptoU W (w.heap.size+1) vs.length vs vs.length:=by rw[h6]at hu⊢;exact hu
 have:=this.ownsU (by unfold maxLen;omega);rw[h6]at this;exact this
structure LgS(w:World)(L b o:Nat)(B:List Int)(cap:Nat)(k:Nat):Prop where
 c0:w.cell? ⟨L,0,none⟩=some (.slice (some ⟨b,o,none⟩) B.length cap)
 c1:w.cell? ⟨L,1,none⟩=some (.int .i64 (k:Int))
 f1:w.frozen? ⟨L,1,none⟩=false
 src:BytesAt w b o B
 cap:B.length<=cap
theorem LgS.blk{w w1:World}{L b o:Nat}{B:List Int}{cap k:Nat}(h:LgS w L b o B cap k)(e:w1.heap[L]? =w.heap[L]?)(e2:w1.heap[b]? =w.heap[b]?):LgS w1 L b o B cap k:=
 ⟨cell_blkD h.c0 e,cell_blkD h.c1 e,frz_blkD h.f1 e,h.src.blk e2,h.cap⟩
structure FcS(w W:World):Prop where
 fr:Far w W (fun _=>False)
 z:∀i,i<3->∃x,W.cell? ⟨w.heap.size,i,none⟩=some x
 zf:∀i,W.frozen? ⟨w.heap.size,i,none⟩=false
theorem FcS.below{w W W1:World}(h:FcS w W)(hb:Below W.heap.size W W1):FcS w W1:=by
 obtain⟨x,hx⟩:=h.z 0 (by omega);have hlt:w.heap.size<W.heap.size:=cell_ltD hx;have e:=hb.block _ hlt;exact⟨h.fr.below hb,fun i hi=>by obtain⟨y,hy⟩:=h.z i hi;exact⟨y,cell_blkD hy e⟩,fun i=>frz_blkD (h.zf i) e⟩
theorem FcS.drew{w W:World}(h:FcS w W):FcS w W.drew:=⟨h.fr.drew,h.z,h.zf⟩
theorem FcS.drewN{w W:World}(h:FcS w W)(n:Nat):FcS w (W.drewN n):=⟨⟨h.fr.os,h.fr.tape,h.fr.output,h.fr.size,h.fr.block⟩,h.z,h.zf⟩
theorem FcS.start(w:World):FcS w (w.alloc (.cells #[.int .u32 0,.int .u32 0,.slice none 0 0] 39)):=by
 refine⟨(Far.refl w _).below ((Below.refl _ _).alloc (Nat.le_refl _) _),fun i hi=> ?_,fun i=>by simp⟩;rcases i with _|_|_|i
 ·exact⟨_,by simp;rfl⟩
 ·exact⟨_,by simp;rfl⟩
 ·exact⟨_,by simp;rfl⟩
 omega
theorem Far.up{w W:World}{S:Nat->Prop}(h:Far w W (fun _=>False)):Far w W S:=⟨h.os,h.tape,h.output,h.size,fun q hq _=>h.block q hq (fun h=>h)⟩
theorem RdB.blks{w w1:World}{R b:Nat}{l:List Int}{st:Int}{o cap:Nat}(h:RdB w R b l st o cap)(e:w1.heap[R]? =w.heap[R]?)(e2:w1.heap[b]? =w.heap[b]?):RdB w1 R b l st o cap:=
 ⟨cell_blkD h.c0 e,cell_blkD h.c1 e,frz_blkD h.f0 e,h.src.blk e2,h.cap⟩
theorem RdB.below{w w1:World}{R b:Nat}{l:List Int}{st:Int}{o cap:Nat}(h:RdB w R b l st o cap)(hb:Below w.heap.size w w1)(hbw:b<w.heap.size):RdB w1 R b l st o cap:=h.blks (hb.block R (cell_ltD h.c0)) (hb.block b hbw)
theorem Far.skip{w W W1:World}{S:Nat->Prop}{R:Nat}(h:Far w W S)(h':Far W W1 (fun q=>q=R))(hR:w.heap.size<=R):Far w W1 S:=
 ⟨h'.os.trans h.os,h'.tape.trans h.tape,h'.output.trans h.output,Nat.le_trans h.size h'.size,fun q hq hS=>(h'.block q (Nat.lt_of_lt_of_le hq h.size) (fun e=>by omega)).trans (h.block q hq hS)⟩
theorem OwnC.farD{w w1:World}{D N:Nat}{vs:Nat->Value}{cs:List C}{S:Nat->Prop}(h:OwnC w D N vs cs)(hf:Far w w1 S)(hS:∀q,S q->q<D):OwnC w1 D N vs cs:=by
 obtain⟨f,hr,hv⟩:=h.row;refine⟨⟨f,hr.of_block (hf.block D hr.lt (fun hs=>by have:=hS D hs;omega)),hv⟩,h.le,fun i hi=> ?_,h.inc⟩;have ho:=h.own i hi;exact row_block ho (fun q hq=>hf.block q (ho.lt q hq).2 (fun hs=>by have:=hS q hs;have:=(ho.lt q hq).1;omega))
theorem getD_snoc(cs:List C)(c:C)(i:Nat)(hi:i<cs.length):(cs++[c]).getD i C.zero=cs.getD i C.zero:=by
 rw[List.getD_eq_getElem?_getD,List.getD_eq_getElem?_getD,List.getElem?_append_left hi]
theorem getD_last(cs:List C)(c:C):(cs++[c]).getD cs.length C.zero=c:=by simp[List.getD_eq_getElem?_getD]
theorem OwnC.push{w1:World}{D N H:Nat}{vs:Nat->Value}{cs:List C}{c:C}{v':Value}(h:OwnC w1 D N vs cs)(hN:cs.length<N)(hH:∀i,i<cs.length->∀q,(vs i).ownBlock=some q->q<H)(hDH:D<H)(hv:ownsU w1 H v' c.args):
 OwnC (((w1.setCell ⟨D,cs.length*3,none⟩ (.int .u32 c.arch)).setCell ⟨D,cs.length*3+1,none⟩ (.int .u32 c.nr)).setCell ⟨D,cs.length*3+2,none⟩ v') D N (fun i=>if i=cs.length then v' else vs i) (cs++[c]):=by
 have hl1:(cs++[c]).length=cs.length+1:=by simp
 obtain⟨f,hr,hf⟩:=h.row;have hvD:∀q,v'.ownBlock=some q->q≠D:=fun q hq=>by have:=(hv.lt q hq).1;omega
 have hwD:∀i,i<cs.length->∀q,(vs i).ownBlock=some q->q≠D:=fun i hi q hq=>by have:=((h.own i hi).lt q hq).1;omega
 refine⟨⟨_,((hr.set _ _).set _ _).set _ _,fun i hi=> ?_⟩,by omega,fun i hi=> ?_,fun i j p q hij hj hp hq=> ?_⟩
 ·rw[hl1]at hi;by_cases e:i=cs.length
  ·subst e;rw[getD_last];refine⟨?_,?_,?_⟩
   ·rw[if_neg (by omega),if_neg (by omega),if_pos rfl]
   ·rw[if_neg (by omega),if_pos rfl]
   rw[if_pos rfl,if_pos rfl]
  rw[getD_snoc cs c i (by omega)];obtain⟨f0,f1,f2⟩:=hf i (by omega);refine⟨?_,?_,?_⟩
  ·rw[if_neg (by omega),if_neg (by omega),if_neg (by omega),f0]
  ·rw[if_neg (by omega),if_neg (by omega),if_neg (by omega),f1]
  rw[if_neg (by omega),if_neg (by omega),if_neg (by omega),f2,if_neg e]
 ·rw[hl1]at hi;by_cases e:i=cs.length
  ·subst e;rw[getD_last];simp only[if_true];exact ownsU_set (ownsU_set (ownsU_set (ownsU_mono hv (by omega)) hvD) hvD) hvD
  rw[getD_snoc cs c i (by omega)];simp only[if_neg e];exact ownsU_set (ownsU_set (ownsU_set (h.own i (by omega)) (hwD i (by omega))) (hwD i (by omega))) (hwD i (by omega))
 rw[hl1]at hj;by_cases e:j=cs.length
 ·subst e;simp only[if_true]at hq;rw[if_neg (by omega)]at hp;have h2:=hH i (by omega) p hp;have h3:=(hv.lt q hq).1;omega
 rw[if_neg (by omega)]at hp hq;exact h.inc i j p q hij (by omega) hp hq
end Go.Proofs.YtddemlfepjkgoaaGreat
