import Derived.Test.YtddemlfepjkgoaaGreatQ50
set_option linter.all false
set_option maxRecDepth 200000
set_option maxHeartbeats 16000000
namespace Go.Proofs.YtddemlfepjkgoaaGreat
open Go.RowKit Go.Deep
def manyS(s i:Nat):C:=⟨7,(i:Int)%(s:Int),[(i:Int),(i:Int)*4294967303,5,(i:Int)/3,0,1]⟩
def manyM(s n:Nat):List C:=(List.range n).map (manyS s)
theorem manyM_succ(s n:Nat):manyM s (n+1)=manyM s n++[manyS s n]:=by simp[manyM,List.range_succ]
theorem manyM_len(s n:Nat):(manyM s n).length=n:=by simp[manyM]
theorem mod_small{i s:Nat}(h:i<=1001)(hs:0<s):0<=(i:Int)%(s:Int)∧(i:Int)%(s:Int)<=1001:=by
 have h1:=Int.emod_nonneg (i:Int) (show(s:Int)≠0 by omega);have h2:((i%s:Nat):Int)=(i:Int)%(s:Int):=by omega
 have h3:=Nat.mod_le i s;omega
theorem manyM_ok{s n:Nat}(h:n<=1001)(hs:0<s):∀c∈manyM s n,Ok6 c:=by
 intro c hc;simp only[manyM,List.mem_map,List.mem_range]at hc;obtain⟨i,hi,rfl⟩:=hc;have:=mod_small (i:=i) (s:=s) (by omega) hs;refine⟨⟨by show(0:Int)<=7;omega,by show(7:Int)<=4294967295;omega,this.1,by show(i:Int)%(s:Int)<=4294967295;omega,fun v hv=> ?_⟩,rfl⟩;simp only[manyS,List.mem_cons,List.not_mem_nil,or_false]at hv;unfold isU64;rcases hv with rfl|rfl|rfl|rfl|rfl|rfl<;>omega
theorem ownsU_sixM(w:World)(x1 x2 x3 x4 x5 x6:Int):ownsU (w.alloc (.cells #[.int .u64 x1,.int .u64 x2,.int .u64 x3,.int .u64 x4,.int .u64 x5,.int .u64 x6] 69)) w.heap.size (.slice (some ⟨w.heap.size,0,none⟩) 6 6) [x1,x2,x3,x4,x5,x6]:=
 ⟨rfl,.inr ⟨w.heap.size,6,#[.int .u64 x1,.int .u64 x2,.int .u64 x3,.int .u64 x4,.int .u64 x5,.int .u64 x6],rfl,Nat.le_refl _,Go.Deep.blk_alloc_new _ _,Nat.le_refl _,by simp[maxLen],rfl,rfl⟩⟩
theorem manyM_any(s n:Nat)(w:World)(hn:n<=1001)(hs:0<s)(hs9:s<=9):
 Calls Tryz.prog 15 #[.int .i64 (n:Int),.int .i64 (s:Int)] w fun e w'=>∃v os,e=.returned v∧os.map Prod.fst=manyM s n∧McS w' w.heap.size v os∧Below w.heap.size w w':=by
 obtain⟨i0,hi0,hz0,hz1,hz2⟩:=info_parts infoCall;have M0:McS w w.heap.size (.slice none 0 0) []:=⟨World.ownsRow_nil _ _ _ _,fun p hp=>by simp at hp⟩;go_enter Tryz.func15,Tryz.ntmps15;go_wp2_with fail;go_loopw [5,6](fun sl u wr=>∃(v:Value)(i:Nat)(os:List (C×Value)),v=sl∧u=.int .i64 (i:Int)∧i<=n∧McS wr w.heap.size v os∧Below w.heap.size w wr∧Hid (os.map Prod.fst=manyM s i))(fun _ u _=>n-(intOf u).toNat)
 case atStart=>exact⟨_,0,[],rfl,rfl,by omega,M0,Below.refl _ _,rfl⟩
 case round=>
  obtain⟨v,i,os,rfl,rfl,hin,M,hB,hos⟩:=hrel;clear M0;by_cases hlt:i<n
  ·have hlt':(i:Int)<(n:Int):=by omega
   obtain⟨av,cv,ev,_,_⟩:=M.src;have hoi:os.length=i:=by have:=congrArg List.length hos.out;rw[List.length_map,manyM_len]at this;exact this
   have hw1:IntKind.u64.wrap (i:Int)=(i:Int):=by rw[IntKind.wrap_u64];omega
   have hw2:IntKind.u64.wrap ((i:Int)*4294967303)=(i:Int)*4294967303:=by rw[IntKind.wrap_u64];omega
   have hmd:=mod_small (i:=i) (s:=s) (by omega) hs;have hw3:IntKind.u32.wrap ((i:Int)%(s:Int))=(i:Int)%(s:Int):=by rw[IntKind.wrap_u32];omega
   have hs0:¬(s:Int)=0:=by omega
   have hou:=ownsU_sixM wr (i:Int) ((i:Int)*4294967303) 5 ((i:Int)/3) 0 1;have b1:Below wr.heap.size wr (wr.alloc (.cells #[.int .u64 (i:Int),.int .u64 ((i:Int)*4294967303),.int .u64 5,.int .u64 ((i:Int)/3),.int .u64 0,.int .u64 1] 69)):=(Below.refl _ _).alloc (Nat.le_refl _) _;have M1:=M.below b1;have B1:=hB.trans (b1.mono hB.size);have hou1:=ownsU_mono hou hB.size;have hbs:=hB.size;have HO2:Hid ((os++[(manyS s i,Value.slice (some ⟨wr.heap.size,0,none⟩) 6 6)]).map Prod.fst=manyM s (i+1)):=by
    unfold Hid;rw[manyM_succ,List.map_append,hos.out];rfl
   rw[hoi]at ev;subst ev;have hrow:World.ownsRow (wr.alloc (.cells #[.int .u64 (i:Int),.int .u64 ((i:Int)*4294967303),.int .u64 5,.int .u64 ((i:Int)/3),.int .u64 0,.int .u64 1] 69)) w.heap.size 39 3 (.slice av i cv) i (cCs os):=by have:=M1.row;rw[ownsP,hoi]at this;exact this
   have ez:(wr.alloc (.cells #[.int .u64 (i:Int),.int .u64 ((i:Int)*4294967303),.int .u64 5,.int .u64 ((i:Int)/3),.int .u64 0,.int .u64 1] 69)).heap.size=wr.heap.size+1:=by simp
   clear M hB b1 hou hos;go_wp2_with(at_builtin;refine wpList_append_own _ rfl (.tmp 22) (.tmp 29) 23 rfl (w.heap.size) 39 i0 _ 3 32 Tryz.underlying23 hi0 hz0 hz1 hz2 rfl (by decide) _ _ _ rfl (hrow.alloc _) ⟨wr.heap.size+1,0,none⟩ 1 1 (cC (manyS s i,.slice (some ⟨wr.heap.size,0,none⟩) 6 6)) rfl rfl ?c1 (cC_one rfl) ?c3 ?c4 ?c5 ?_)
   case c1=>
    intro t u ht;rw[add_at,<-ez,World.cell?_alloc_at _ _ _ _ (by simp)];simpa[cC,manyS]using ht
   case c3=>unfold maxLen;omega
   case c4=>omega
   case c5=>first|omega|(simp;omega)
   intro vz wz ow gr _;have M2:=M1.push (p:=(manyS s i,.slice (some ⟨wr.heap.size,0,none⟩) 6 6)) hou1 gr (ownsP_snoc (by rw[hoi]) ow);have B2:Below w.heap.size w wz:=(B1.alloc (by rw[ez];omega) _).grown gr (by simp;omega) (fun t ht=>(hrow.lt t ht).1);clear ow gr M1 B1 hrow hou1;go_wp2;go_roundw
   case rel=>exact⟨_,i+1,_,rfl,by go_num,by omega,M2,B2,HO2⟩
   case measure=>simp[intOf];omega
  obtain rfl:i=n:=by omega
  go_wp2;go_ret;exact⟨_,os,rfl,hos.out,M,hB⟩
theorem ownsU_five{w:World}{B g ca:Nat}{l:List Int}(h:ownsU w B (.slice (some ⟨g,0,none⟩) 6 ca) l)(hl:l.length=6):ownsU w B (.slice (some ⟨g,0,none⟩) 5 ca) (l.take 5):=by
 obtain⟨h0,h|⟨g',cap,cur,e,hb,hg,hn,hm,hs,hx⟩⟩:=h
 ·cases h.1
 simp only[Value.slice.injEq,Option.some.injEq,Addr.mk.injEq]at e;obtain⟨⟨rfl,_,_⟩,_,rfl⟩:=e;have h5:(l.take 5).length=5:=by rw[List.length_take];omega
 refine⟨by simp,.inr ⟨g,ca,cur,by rw[h5],hb,hg,by rw[h5];omega,hm,hs,?_⟩⟩;rw[h5,List.map_take,<-hx,hl,List.take_take];rfl
def cutC(c:C):C:=⟨c.arch,c.nr,c.args.take 5⟩
theorem McS.cut{w:World}{B b n cp g ca:Nat}{c:C}{r:List (C×Value)}(h:McS w B (.slice (some ⟨b,0,none⟩) n cp) ((c,.slice (some ⟨g,0,none⟩) 6 ca)::r))(h6:c.args.length=6):
 McS (w.setCell ⟨b,2,none⟩ (.slice (some ⟨g,0,none⟩) 5 ca)) B (.slice (some ⟨b,0,none⟩) n cp) ((cutC c,.slice (some ⟨g,0,none⟩) 5 ca)::r):=by
 have hap:∀p∈(c,Value.slice (some ⟨g,0,none⟩) 6 ca)::r,p.2.ownBlock≠some b:=fun p hp=>by
  have:=rows_apart (h.own p hp) h.row (by decide);rcases this with h1|h1
  ·rw[h1];simp
  intro e;exact h1 (by rw[e];rfl)
 refine⟨?_,fun p hp=> ?_⟩
 ·obtain⟨h0,h1|⟨g',cap,cur,e,hb,hg,hn,hm,hs,hx⟩⟩:=h.row
  ·cases h1.1
  simp only[Value.slice.injEq,Option.some.injEq,Addr.mk.injEq]at e;obtain⟨⟨rfl,_,_⟩,rfl,rfl⟩:=e;refine⟨by simpa[cCs,cC]using h0,.inr ⟨b,cp,cur.setIfInBounds 2 (.slice (some ⟨g,0,none⟩) 5 ca),by simp,hb,heap_setCell_same w b 2 cur _ _ hg,by simpa using hn,hm,by simpa using hs,?_⟩⟩;have e1:cCs ((cutC c,Value.slice (some ⟨g,0,none⟩) 5 ca)::r)=(cCs ((c,Value.slice (some ⟨g,0,none⟩) 6 ca)::r)).set 2 (.slice (some ⟨g,0,none⟩) 5 ca):=rfl;rw[e1,<-hx,Array.toList_setIfInBounds,List.take_set];simp
 rcases List.mem_cons.1 hp with rfl|hp
 ·exact ownsRow_setCell_other (ownsU_five (h.own (c,.slice (some ⟨g,0,none⟩) 6 ca) (by simp)) h6) (by simpa[Value.ownBlock]using hap _ (List.mem_cons_self ..)) _
 exact ownsRow_setCell_other (h.own p (by simp[hp])) (hap p (by simp[hp])) _
set_option linter.unusedSimpArgs false
def KnP(R cap:Nat)(a:Option Addr)(L:List Int)(j:Nat)(ex sp f:Int)(w:World)(e:Ending)(w':World):Prop:=e=.returned (.agg #[.int .i64 ex,.int .i64 sp,.int .i64 f])∧Rd w' R a cap L (j+2)∧w.grownBy w' (some R)
theorem drawKnobs_det(L:List Int)(hL:isBytes L)(j:Nat):∃ex sp f:Int,∀(R cap:Nat)(a:Option Addr)(w:World),Rd w R a cap L j->Calls Tryz.prog 14 #[.pointer (some ⟨R,0,none⟩)] w (KnP R cap a L j ex sp f w):=by
 have HN:Hid (∀j R a cap W,Rd W R a cap L j->Calls Tryz.prog 13 #[.pointer (some ⟨R,0,none⟩)] W fun e w'=>e=.returned (.int .i64 (L.getD j 0))∧Rd w' R a cap L (j+1)∧W.grownBy w' (some R)):=fun j R a cap W h=>next_any R cap a L j W h
 have HN0:Hid _:=HN.out j;have HN1:Hid _:=HN.out (j+1);have hb0:=isBytes_getD hL j;have hb1:=isBytes_getD hL (j+1);generalize L.getD j 0=x at*;generalize L.getD (j+1) 0=y at*;clear HN;have q8:0<=y%40∧y%40<40:=by omega
 rcases(show y%40=0∨y%40=1∨y%40=2∨y%40=3∨y%40=4∨y%40=5∨(6<=y%40∧y%40<12)∨12<=y%40 by omega)with h|h|h|h|h|h|h|h
 case' inl=>refine⟨200,x/8%8,x/64%3,fun R cap a w hR=> ?_⟩
 case' inr.inl=>refine⟨201,x/8%8,x/64%3,fun R cap a w hR=> ?_⟩
 case' inr.inr.inl=>refine⟨x%8,201,x/64%3,fun R cap a w hR=> ?_⟩
 case' inr.inr.inr.inl=>refine⟨x%8,x/8%8,3,fun R cap a w hR=> ?_⟩
 case' inr.inr.inr.inr.inl=>refine⟨x%8,-1,x/64%3,fun R cap a w hR=> ?_⟩
 case' inr.inr.inr.inr.inr.inl=>refine⟨x%8,200,x/64%3,fun R cap a w hR=> ?_⟩
 case' inr.inr.inr.inr.inr.inr.inl=>refine⟨0,x/8%8,x/64%3,fun R cap a w hR=> ?_⟩
 case' inr.inr.inr.inr.inr.inr.inr=>refine⟨x%8,x/8%8,x/64%3,fun R cap a w hR=> ?_⟩
 all_goals
  have hR0:Rd (w.alloc (.cells #[.int .i64 0,.int .i64 0,.int .i64 0] 25)) R a cap L j:=hR.alloc _;have g0:w.grownBy (w.alloc (.cells #[.int .i64 0,.int .i64 0,.int .i64 0] 25)) (some R):=rb_alloc (World.grownBy.refl _ _) _;have X0:=Box3.new w 25 (.int .i64 0) (.int .i64 0) (.int .i64 0);have hRl:=hR.lt;go_enter Tryz.func14,Tryz.ntmps14;go_wp2_with fail;refine(HN0.out _ _ _ _ hR0).mono ?_;rintro _ w1⟨rfl,r1,g1⟩;have G1:=rb_trans g0 g1;have X1:=X0.grownX g1 (fun e=>by simp at e;omega);have hs1:=g1.size;have hs0:(w.alloc (.cells #[.int .i64 0,.int .i64 0,.int .i64 0] 25)).heap.size=w.heap.size+1:=by simp
  rw[hs0]at hs1;clear hR0 g0 X0 g1 hs0 HN0;have r2:Rd (w1.alloc (.cells #[.int .i64 (x%8),.int .i64 (x/8%8),.int .i64 (x/64%3)] 25)) R a cap L (j+1):=r1.alloc _;have G2:w.grownBy (w1.alloc (.cells #[.int .i64 (x%8),.int .i64 (x/8%8),.int .i64 (x/64%3)] 25)) (some R):=rb_alloc G1 _;have Y2:=Box3.new w1 25 (.int .i64 (x%8)) (.int .i64 (x/8%8)) (.int .i64 (x/64%3));have X2:=X1.alloc (.cells #[.int .i64 (x%8),.int .i64 (x/8%8),.int .i64 (x/64%3)] 25);go_wp2_with fail;refine(HN1.out _ _ _ _ r2).mono ?_;rintro _ w2⟨rfl,r3,g3⟩;have G3:=rb_trans G2 g3;have X3:=X2.grownX g3 (fun e=>by simp at e;omega);have Y3:=Y2.grownX g3 (fun e=>by simp at e;omega);clear HN1 r1 r2 G1 G2 X1 X2 Y2 g3;obtain⟨_,a0,a1,a2,e0,e1,e2⟩:=X3;obtain⟨_,b0,b1,b2,f0,f1,f2⟩:=Y3;have hne:¬w.heap.size=w1.heap.size:=by omega
  have hne2:¬w1.heap.size=w.heap.size:=by omega
  go_wp2;refine bodyPost_ret (v:=.agg #[.int .i64 _,.int .i64 _,.int .i64 _]) (by simp[results,Tryz.results14,go_sem,a0,a1,a2,hne,hne2]) rfl ⟨rfl,?_,?_⟩
  ·repeat first|exact r3|refine Rd.setX ?_ _ _ (by omega) _
  repeat first|exact G3|refine rb_setX ?_ (by omega) _ _
end Go.Proofs.YtddemlfepjkgoaaGreat
