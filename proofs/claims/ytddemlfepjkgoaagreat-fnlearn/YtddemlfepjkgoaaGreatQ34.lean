import Derived.Test.YtddemlfepjkgoaaGreatQ33
set_option linter.all false
set_option maxRecDepth 200000
set_option maxHeartbeats 16000000
namespace Go.Proofs.YtddemlfepjkgoaaGreat
open Go.RowKit
open srtR
theorem distN_map{a b:List Rn}(h:DistG ordN a b):DistG ordR (a.map Subtype.val) (b.map Subtype.val):=by
 refine⟨List.pairwise_map.2 h.1,fun c=> ?_⟩;simp only[List.mem_map];constructor
 ·rintro⟨x,hx,rfl⟩;exact⟨x,(h.2 x).1 hx,rfl⟩
 rintro⟨x,hx,rfl⟩;exact⟨x,(h.2 x).2 hx,rfl⟩
def gOf(rules:List Ru)(hv:∀r∈rules,VR r)(i:Nat):Rn:=if h:i<rules.length then⟨normR rules[i],normR_NR (hv _ (List.getElem_mem h))⟩else default
theorem gOf_val{rules:List Ru}(hv:∀r∈rules,VR r){i:Nat}(h:i<rules.length):(gOf rules hv i).val=normR (rules.getD i []):=by
 unfold gOf;rw[dif_pos h,List.getD_eq_getElem?_getD,List.getElem?_eq_getElem h];rfl
theorem ls_gOf(rules:List Ru)(hv:∀r∈rules,VR r):ls (gOf rules hv) rules.length=rules.map normR:=by
 apply List.ext_getElem
 ·rw[ls_len,List.length_map]
 intro i h1 h2;rw[ls_len]at h1;simp only[ls,lstF,List.getElem_map,List.getElem_range];unfold gOf;rw[dif_pos h1]
theorem enc_snoc(g:Nat->Rn)(k:Nat):(lstF g (k+1)).flatMap encN=(lstF g k).flatMap encN++encN (g k):=by
 rw[lstF_succ,List.flatMap_append];simp
structure LiS(w wr:World)(v:Value)(k:Nat)(g:Nat->Rn):Prop where
 b:Below w.heap.size w wr
 c:wr.cell? ⟨w.heap.size,0,none⟩=some v
 f:wr.frozen? ⟨w.heap.size,0,none⟩=false
 own:wr.ownsRow (w.heap.size+1) 130 6 v k ((lstF g k).flatMap encN)
theorem LiS.keep{w wr w1:World}{v:Value}{k:Nat}{g:Nat->Rn}(h:LiS w wr v k g)(hb:Below wr.heap.size wr w1):LiS w w1 v k g:=
 have h1:=cell_ltK h.c
 ⟨below_step hb h.b,cell_step hb h.c,(hb.frozen (p:=⟨w.heap.size,0,none⟩) h1).trans h.f,World.ownsRow.kept (row:=none) h.own ⟨hb.os,hb.tape,hb.output,hb.size,fun k hk _=>hb.block k hk⟩ (by cases v.ownBlock<;>simp)⟩
theorem LiS.next{w wr w1:World}{v:Value}{k gg cap:Nat}{g:Nat->Rn}(h:LiS w wr v k g)(hown:w1.ownsRow (w.heap.size+1) 130 6 (.slice (some ⟨gg,0,none⟩) (k+1) cap) (k+1) ((lstF g k).flatMap encN++encN (g k)))(hg:wr.grownBy w1 v.ownBlock):
 w1.cell? ⟨w.heap.size,0,none⟩=some v∧w1.frozen? ⟨w.heap.size,0,none⟩=false∧LiS w (w1.setCell ⟨w.heap.size,0,none⟩ (.slice (some ⟨gg,0,none⟩) (k+1) cap)) (.slice (some ⟨gg,0,none⟩) (k+1) cap) (k+1) g:=by
 have h1:=cell_ltK h.c;simp only at h1;have ne1:some w.heap.size≠v.ownBlock:=fun e=>by have:=(h.own.lt _ e.symm).1;omega
 have x1:=(hg.cell_far ⟨w.heap.size,0,none⟩ h1 ne1).trans h.c;have x2:=(hg.frozen_far ⟨w.heap.size,0,none⟩ h1 ne1).trans h.f;have hgg:=(hown.lt gg rfl).1;have hb1:Below w.heap.size w w1:=h.b.grown hg (by omega) (fun z hz=>by have:=(h.own.lt z hz).1;omega);refine⟨x1,x2,⟨hb1.setCell (p:=⟨w.heap.size,0,none⟩) (Nat.le_refl _) _,World.cell?_setCell_same _ _ _ x1,by rw[frozen_setCell];exact x2,?_⟩⟩;rw[enc_snoc];exact row_blockK hown (fun q hq=>by
  have:q=gg:=by simpa[Value.ownBlock]using hq.symm
  subst this
  simp only[World.setCell,Array.getElem?_modify];rw[if_neg (by omega)])
theorem St.put2{w:World}{L D N m:Nat}{x:Value}{g':Nat->Rn}(hc:w.cell? ⟨L,0,none⟩=some x)(hf:w.frozen? ⟨L,0,none⟩=false)(hne:L≠D)(hr:Row w D N m g'):St (w.setCell ⟨L,0,none⟩ (.slice (some ⟨D,0,none⟩) m N)) L D N m g':=by
 refine⟨World.cell?_setCell_same _ _ _ hc,by rw[frozen_setCell];exact hf,?_,hne⟩;obtain⟨hn,f,h1,h2⟩:=hr;exact⟨hn,f,h1.of_block (by simp only[World.setCell,Array.getElem?_modify];rw[if_neg hne]),h2⟩
structure OwnRs(w:World)(B:Nat)(v:Value)(l:List Ru)(vs:Nat->Value)(cb:Nat->Nat)(gb:Nat):Prop where
 row:w.ownsRow B 116 1 v l.length ((List.range l.length).map vs)
 ob:v.ownBlock=some gb
 own:∀i,i<l.length->ownsK w B (vs i) (l.getD i [])∧(vs i).ownBlock=some (cb i)
 ne:∀i,i<l.length->cb i≠gb
 inc:∀i j,i<j->j<l.length->cb i<cb j
theorem ownsK_block{w:World}{B:Nat}{v:Value}{l:List K}(h:ownsK w B v l)(hl:0<l.length):∃q cap,v=.slice (some ⟨q,0,none⟩) l.length cap∧B<=q∧q<w.heap.size:=by
 have h':=h;obtain⟨_,h|⟨g,cap,cur,e,hb,_⟩⟩:=h
 ·omega
 exact⟨g,cap,e,hb,(h'.lt g (by rw[e];rfl)).2⟩
theorem OwnRs.below{w w1:World}{B:Nat}{v:Value}{l:List Ru}{vs:Nat->Value}{cb:Nat->Nat}{gb:Nat}(h:OwnRs w B v l vs cb gb)(hb:Below w.heap.size w w1):OwnRs w1 B v l vs cb gb:=
 ⟨World.ownsRow.kept (row:=none) h.row ⟨hb.os,hb.tape,hb.output,hb.size,fun k hk _=>hb.block k hk⟩ (by cases v.ownBlock<;>simp),h.ob,fun i hi=>⟨ownsK_below (h.own i hi).1 hb,(h.own i hi).2⟩,h.ne,h.inc⟩
theorem OwnRs.next{w w9 w1:World}{B:Nat}{v v':Value}{l:List Ru}{r:Ru}{vs:Nat->Value}{cb:Nat->Nat}{gb gg cap q:Nat}{o:Obj}(h:OwnRs w B v l vs cb gb)(hBw:B<=w.heap.size)(hb:Below w.heap.size w w9)(hv:ownsK w9 w.heap.size v' r)(hq:v'.ownBlock=some q)
 (hown:w1.ownsRow B 116 1 (.slice (some ⟨gg,0,none⟩) (l.length+1) cap) (l.length+1) ((List.range l.length).map vs++[v']))(hg:(w9.alloc o).grownBy w1 v.ownBlock)(hat:v.ownBlock=some gg∨gg=(w9.alloc o).heap.size):
 OwnRs w1 B (.slice (some ⟨gg,0,none⟩) (l.length+1) cap) (l++[r]) (fun i=>if i=l.length then v' else vs i) (fun i=>if i=l.length then q else cb i) gg:=by
 have hgb:=(h.row.lt gb h.ob).2
 have hq1:=hv.lt q hq
 have hb2:Below w9.heap.size w9 (w9.alloc o):=(Below.refl _ _).alloc (Nat.le_refl _) o
 have hsz:(w9.alloc o).heap.size=w9.heap.size+1:=by simp
 have hws:=hb.size
 have cl:∀i,i<l.length->cb i<w.heap.size:=fun i hi=>((h.own i hi).1.lt _ (h.own i hi).2).2
 have len1:(l++[r]).length=l.length+1:=by simp
 have gne:∀i,i<l.length->cb i≠gg:=fun i hi=>by
  rcases hat with e|e
  ·rw[h.ob]at e;cases e;exact h.ne i hi
  ·have:=cl i hi;omega
 have qne:q≠gg:=by
  rcases hat with e|e
  ·rw[h.ob]at e;cases e;omega
  ·omega
 have e0:(List.range (l.length+1)).map (fun i=>if i=l.length then v' else vs i)=(List.range l.length).map vs++[v']:=by
  rw[List.range_succ,List.map_append]
  congr 1
  ·apply List.map_congr_left
   intro i hi
   rw[if_neg (by have:=List.mem_range.1 hi;omega)]
  ·simp
 refine⟨by rw[len1,e0];exact hown,rfl,fun i hi=> ?_,fun i hi=> ?_,fun i j hij hj=> ?_⟩
 ·rw[len1]at hi
  by_cases e:i=l.length
  ·subst e
   simp only[if_true]
   have e2:(l++[r]).getD l.length []=r:=by simp[List.getD_eq_getElem?_getD]
   rw[e2]
   exact⟨World.ownsRow.mono (World.ownsRow.kept (ownsK_below hv hb2) hg (.inr (by rw[hq,h.ob];intro e;cases e;omega))) hBw,hq⟩
  ·have hi':i<l.length:=by omega
   simp only[if_neg e]
   have e2:(l++[r]).getD i []=l.getD i []:=by simp[List.getD_eq_getElem?_getD,List.getElem?_append_left hi']
   rw[e2]
   refine⟨World.ownsRow.kept (ownsK_below (ownsK_below (h.own i hi').1 hb) hb2) hg (.inr ?_),(h.own i hi').2⟩
   rw[(h.own i hi').2,h.ob];intro e;cases e;exact h.ne i hi' rfl
 ·rw[len1]at hi
  by_cases e:i=l.length
  ·simp only[if_pos e];exact qne
  ·simp only[if_neg e];exact gne i (by omega)
 ·rw[len1]at hj
  by_cases e:j=l.length
  ·simp only[if_pos e]
   rw[if_neg (by omega)]
   have:=cl i (by omega);omega
  ·simp only[if_neg e]
   rw[if_neg (by omega)]
   exact h.inc i j hij (by omega)
theorem ls_succ(g:Nat->Rn)(k:Nat):ls g (k+1)=ls g k++[(g k).val]:=by rw[ls,lstF_succ,List.map_append];rfl
theorem infoRuleS:(Tryz.prog.info? 116).map (fun i=>(i.zero,i.size,i.bytes))=some (some (.agg #[.slice none 0 0]),1,24):=by kernel_rfl
def lenAt(L:Nat)(w:World):Nat:=match w.cell? ⟨L,0,none⟩with|some (.slice _ n _)=>n|_=>0
theorem lenAt_of{L:Nat}{w:World}{a:Option Addr}{n c:Nat}(h:w.cell? ⟨L,0,none⟩=some (.slice a n c)):lenAt L w=n:=by unfold lenAt;rw[h]
def SmallPost(rules:List Ru)(w:World)(e:Ending)(w':World):Prop:=∃v out vs cb gb,IsSmall rules out∧e=.returned v∧OwnRs w' w.heap.size v out vs cb gb∧Below w.heap.size w w'
theorem smallRules_any(rules:List Ru)(a:Option Addr)(cap:Nat)(w:World)(hs:LSrc 1 PR w a rules)(hv:∀r∈rules,VR r)(h0:0<rules.length)(hn:rules.length<=1000):
 Calls Tryz.prog 35 #[.slice a rules.length cap] w fun e w'=>SmallPost rules w e w':=by
 obtain⟨i0,hi,hz0,hz1,hz2⟩:=info_parts infoEl;obtain⟨i1,hi1,hy0,hy1,hy2⟩:=info_parts infoRuleS;have HP:Hid (∀wr,Below w.heap.size w wr->∀i,i<rules.length->∃b o,a=some ⟨b,o,none⟩∧b<wr.heap.size∧∃a' cap',wr.cell? ⟨b,o+i,none⟩=some (.slice a' 6 cap')∧LSrc 3 PK wr a' (rules.getD i [])):=by
  intro wr hB i hi;obtain⟨b,o,e,hl,a',cap',h1,h2⟩:=(hs.below PR.stays hB).at hi [];have h6:(rules.getD i []).length=6:=(hv _ (by rw[List.getD_eq_getElem?_getD,List.getElem?_eq_getElem hi];exact List.getElem_mem hi)).1;rw[h6,Nat.mul_one]at h1;exact⟨b,o,e,hl,a',cap',h1,h2⟩
 have HI:Hid (∀i wr a' cap',i<rules.length->LSrc 3 PK wr a' (rules.getD i [])->Calls Tryz.prog 72 #[.agg #[.slice a' 6 cap']] wr fun e w'=>e=.returned (.agg (encN (gOf rules hv i)).toArray)∧Below wr.heap.size wr w'):=by
  intro i wr a' cap' hi h;have:=innerRuleOf_any (rules.getD i []) a' cap' wr h (hv _ (by rw[List.getD_eq_getElem?_getD,List.getElem?_eq_getElem hi];exact List.getElem_mem hi));rw[<-gOf_val hv hi]at this;exact this
 have HLS:=ls_gOf rules hv;have HLS:Hid (ls (gOf rules hv) rules.length=rules.map normR):=HLS;rename_i HLS0;clear HLS0 hs;generalize gOf rules hv=g at*;generalize rules.length=n at*;have S0:LiS w (w.alloc (.cells #[.slice none 0 0] 128)) (.slice none 0 0) 0 g:=by
  have q:=box_get w (.slice none 0 0) 128 w.heap.size rfl;exact⟨(Below.refl _ _).alloc (Nat.le_refl _) _,q.1,q.2,World.ownsRow_nil _ _ _ _⟩
 go_enter Tryz.func35,Tryz.ntmps35;go_wp2_with fail;generalize w.alloc (.cells #[.slice none 0 0] 128)=W at*;go_loopw [11](fun i wr=>∃(k:Nat)(v:Value),k<=n∧i=.int .i64 k∧LiS w wr v k g∧(k=0->v=.slice none 0 0))(fun i _=>n-(intOf i).toNat)
 case atStart=>exact⟨0,_,by omega,rfl,S0,fun _=>rfl⟩
 case round=>
  clear S0;obtain⟨k,v,hk,rfl,hS,hv0⟩:=hrel;rename World=>W0
  by_cases hkn:k<n
  ·obtain⟨b,o,rfl,hlt,a',cap',c0,hps⟩:=HP.out W0 hS.b k hkn;have hkn':(k:Int)<(n:Int):=by omega
   have hbx:Below W0.heap.size W0 (W0.alloc (.cells #[.slice a' 6 cap'] 116)):=(Below.refl _ _).alloc (Nat.le_refl _) _;have qx:=box_get W0 (.slice a' 6 cap') 116 W0.heap.size rfl;have hS1:=hS.keep hbx;have hps1:=hps.below PK.stays hbx;have HIk:Hid (∀wr,LSrc 3 PK wr a' (rules.getD k [])->Calls Tryz.prog 72 #[.agg #[.slice a' 6 cap']] wr fun e w'=>e=.returned (.agg (encN (g k)).toArray)∧Below wr.heap.size wr w'):=fun wr h=>HI.out k wr a' cap' hkn h
   rw[encN_fm]at HIk;have HE:Hid (encN (g k)=[.iface (tN (g k) 0) (pN (g k) 0),.iface (tN (g k) 1) (pN (g k) 1),.iface (tN (g k) 2) (pN (g k) 2),.iface (tN (g k) 3) (pN (g k) 3),.iface (tN (g k) 4) (pN (g k) 4),.iface (tN (g k) 5) (pN (g k) 5)]):=encN_fm _;clear HP HI hps hS hbx hv;generalize tN (g k) 0=t0 at*;generalize pN (g k) 0=p0 at*;generalize tN (g k) 1=t1 at*;generalize pN (g k) 1=p1 at*;generalize tN (g k) 2=t2 at*;generalize pN (g k) 2=p2 at*;generalize tN (g k) 3=t3 at*;generalize pN (g k) 3=p3 at*;generalize tN (g k) 4=t4 at*;generalize pN (g k) 4=p4 at*;generalize tN (g k) 5=t5 at*;generalize pN (g k) 5=p5 at*;go_wp2_with fail;generalize hWx:W0.alloc (.cells #[.slice a' 6 cap'] 116)=W1 at*;clear hWx;have q1:=qx.1;have hc1:=hS1.c;have hcd:W1.drew.cell? ⟨w.heap.size,0,none⟩=some v:=hc1;have q1d:W1.drew.cell? ⟨W0.heap.size,0,none⟩=some (.slice a' 6 cap'):=q1;have hpsd:LSrc 3 PK W1.drew a' (rules.getD k []):=hps1.below PK.stays (Below.refl _ _).drew;have SKc:Hid (∀w9,Below W1.drew.heap.size W1.drew w9->LiS w w9 v k g∧w9.cell? ⟨w.heap.size,0,none⟩=some v∧w.heap.size<w9.heap.size∧∀ob,(w9.alloc ob).cell? ⟨w.heap.size,0,none⟩=some v):=fun w9 hb=>by
    have:=(hS1.keep (Below.refl _ _).drew).keep hb;exact⟨this,this.c,cell_ltK this.c,fun ob=>cell_step ((Below.refl _ _).alloc (Nat.le_refl _) ob) this.c⟩
   have hbm:k+1<=maxLen:=by unfold maxLen;omega
   have hbd:(k+1)*96<=140737488355328:=by omega
   clear hS1 hc1 q1 qx hps1;go_region_law(first
    |(go_simp;refine(HIk.out _ hpsd).mono ?_;rintro _ w9⟨rfl,hb9⟩;obtain⟨hS9,hc9,hl9,ha9⟩:=SKc.out w9 hb9;dsimp only)
    |(refine step_append_lies _ (by rfl) _ _ _ (by rfl) (w.heap.size+1) 130 i0 _ 6 96 Tryz.underlying128 hi hz0 hz1 hz2 rfl (by omega) v k ((lstF g k).flatMap encN) (by rfl) (hS9.own.alloc _) ⟨w9.heap.size,0,none⟩ 1 1 [.iface t0 p0,.iface t1 p1,.iface t2 p2,.iface t3 p3,.iface t4 p4,.iface t5 p5] (by rfl) (by rfl) (World.news_of_block (t:=130) (fr:=(0,0)) (heap_alloc_new w9 _)) (by simp[Value.oneCell']) (by omega) hbm hbd (by simp;omega) (w9.heap.size+1) (by simp) ?_;intro gg cap2 w1 hown1 hgrow hat hlt2;rw[<-HE.out]at hown1;obtain⟨x1,x2,x3⟩:=LiS.next (hS9.keep ((Below.refl _ _).alloc (Nat.le_refl _) _)) hown1 hgrow))
   all_goals
    have HX3:Hid _:=x3;clear x1 x2 x3 hown1 hgrow hat hlt2 hS9 hc9 hl9 ha9 hb9 SKc HIk hcd q1d hpsd HE;go_wp2;go_roundw
    case rel=>exact⟨k+1,_,by omega,by go_num,HX3.out,fun h=>by omega⟩
    case measure=>simp[intOf];omega
  have hk':k=n:=by omega
  subst hk';have hlt':¬(k:Int)<(k:Int):=by omega
  obtain⟨D,N,rfl,hD,hnN,hR⟩:=own_rowF encN_len h0 hS.own;have hc:=hS.c;have hf:=hS.f;have hb:=hS.b;have hwl:w.heap.size<W0.heap.size:=cell_ltK hc;have HO:Hid (Calls Tryz.prog 73 #[.slice (some ⟨D,0,none⟩) k N,.func (.func 74) #[] #[]] W0 fun e w'=>∃v m g',e=.returned v∧m<=k∧OnceF 130 encN 6 w' W0.heap.size v m g'∧DistG ordN (lstF g k) (lstF g' m)∧Below W0.heap.size W0 w'):=once_any D 0 k N g W0 (RowF.src hR) h0 (by omega);clear HP HI hS hR hv0;go_wp2_with fail;refine HO.out.mono ?_;rintro _ w2⟨v2,m2,g2,rfl,hm2,⟨D2,N2,rfl,hD2,hmN2,hR2⟩,hd2,hb2⟩;have hc2:=cell_step hb2 hc;have hf2:w2.frozen? ⟨w.heap.size,0,none⟩=false:=(hb2.frozen (p:=⟨w.heap.size,0,none⟩) hwl).trans hf;have hSt:St (w2.setCell ⟨w.heap.size,0,none⟩ (.slice (some ⟨D2,0,none⟩) m2 N2)) w.heap.size D2 N2 m2 g2:=St.put2 hc2 hf2 (by omega) hR2;have hB2:Below w.heap.size w (w2.setCell ⟨w.heap.size,0,none⟩ (.slice (some ⟨D2,0,none⟩) m2 N2)):=(below_step hb2 hb).setCell (p:=⟨w.heap.size,0,none⟩) (Nat.le_refl _) _;have hm0:0<m2:=by
   have:=(hd2.2 (g 0)).2 (by simp[lstF];exact⟨0,h0,rfl⟩)
   cases m2 with
   |zero=>simp[lstF]at this
   |succ m=>omega
  have HD1:Hid (DistG ordR (rules.map normR) (ls g2 m2)):=by unfold Hid;rw[<-HLS.out];exact distN_map hd2
  clear HO hd2 hb2 hR2 hc hf hb HLS;have HDr:Hid (∀wr n g,Below w.heap.size w wr->St wr w.heap.size D2 N2 n g->n<=16777216->Calls Tryz.prog 75 #[.pointer (some ⟨w.heap.size,0,none⟩)] wr fun e w'=>DropPost w.heap.size w w.heap.size D2 N2 n g e w'):=fun wr n g hb hs hn=>drop_any w.heap.size w.heap.size D2 N2 n g w wr (Nat.le_refl _) hb (by omega) (Nat.le_refl _) hs hn
  have HPr:Hid (∀wr n g,Below w.heap.size w wr->St wr w.heap.size D2 N2 n g->n<=16777216->Calls Tryz.prog 76 #[.pointer (some ⟨w.heap.size,0,none⟩)] wr fun e w'=>PairPost w.heap.size w w.heap.size D2 N2 n g e w'):=fun wr n g hb hs hn=>pair_any w.heap.size w.heap.size D2 N2 n g w wr (Nat.le_refl _) hb (by omega) (Nat.le_refl _) hs hn
  go_wp2_with fail;generalize w2.setCell ⟨w.heap.size,0,none⟩ (.slice (some ⟨D2,0,none⟩) m2 N2)=W2 at*;clear hc2 hf2;go_loopw [24](fun _ wr=>∃(m:Nat)(g3:Nat->Rn),0<m∧m<=m2∧St wr w.heap.size D2 N2 m g3∧Below w.heap.size w wr∧Hid (∀out,Steps (ls g3 m) out->Steps (ls g2 m2) out))(fun _ wr=>lenAt w.heap.size wr)
  case atStart=>exact⟨m2,g2,hm0,Nat.le_refl _,hSt,hB2,fun out h=>h⟩
  case round=>
   clear hSt hB2;obtain⟨m,g3,hm1,hmm,hS3,hB3,HSt⟩:=hrel;rename World=>W3
   have hlm:=lenAt_of hS3.c;have HDk:Hid (Calls Tryz.prog 75 #[.pointer (some ⟨w.heap.size,0,none⟩)] W3 fun e w'=>DropPost w.heap.size w w.heap.size D2 N2 m g3 e w'):=HDr.out W3 m g3 hB3 hS3 (by omega);have HPk:Hid (∀wr,Below w.heap.size w wr->St wr w.heap.size D2 N2 m g3->Calls Tryz.prog 76 #[.pointer (some ⟨w.heap.size,0,none⟩)] wr fun e w'=>PairPost w.heap.size w w.heap.size D2 N2 m g3 e w'):=fun wr hb hs=>HPr.out wr m g3 hb hs (by omega)
   clear hS3 hB3;go_wp2_with fail;refine HDk.out.mono ?_;rintro e w4⟨hB4,⟨hNo,rfl,hS4⟩|⟨i,hF,rfl,hS4⟩⟩
   ·go_wp2_with fail;refine(HPk.out w4 hB4 hS4).mono ?_;rintro e w5⟨hB5,⟨hNj,rfl,hS5⟩|⟨i,j,rr,hF,rfl,hS5⟩⟩
    ·have HSt2:Hid (Steps (ls g2 m2) (ls g3 m)):=HSt.out _ (.done ⟨hNo,hNj⟩);clear HSt HDk HPk HDr HPr hS4 hB4 hNo hNj;have hmk:∀u:World,(Instr.makeSlice 73 (.int .i64 0) (.int .i64 (m:Int))).run Tryz.prog u=
      .ok (.slice (some ⟨u.heap.size,0,none⟩) 0 m) (u.alloc (.cells (madeCells #[.slice none 0 0] m) 116)):=fun u=>by
      have h:=run_make (P:=Tryz.prog) u 73 116 i1 _ Tryz.underlying73 hi1 hy0 .i64 .i64 0 (m:Int) (by omega) (by omega) (by rw[hy2];omega) (by omega);simpa[hy1,Value.cells]using h
     have hc5:=hS5.c;have hw5:w.heap.size<w5.heap.size:=cell_ltK hc5;have hb6:Below w5.heap.size w5 (w5.alloc (.cells (madeCells #[.slice none 0 0] m) 116)):=(Below.refl _ _).alloc (Nat.le_refl _) _;have O6:OwnRs (w5.alloc (.cells (madeCells #[.slice none 0 0] m) 116)) w.heap.size (.slice (some ⟨w5.heap.size,0,none⟩) 0 m) [] (fun _=>undef) (fun _=>0) w5.heap.size:=
      ⟨World.ownsRow_made w5 _ m (by omega) (by unfold maxLen;omega) (by rw[size_madeCells];omega),rfl,fun i hi=>by simp at hi,fun i hi=>by simp at hi,fun i j _ hj=>by simp at hj⟩
     have hS6:=hS5.keep hb6;have hB6:=below_step hb6 hB5;have hs6:w5.heap.size<(w5.alloc (.cells (madeCells #[.slice none 0 0] m) 116)).heap.size:=by simp
     clear hS5 hB5 hb6;go_wp2_with fail;generalize w5.alloc (.cells (madeCells #[.slice none 0 0] m) 116)=W6 at*;have hc6:=hS6.c;have HO:Hid (Calls Tryz.prog 73 #[.slice (some ⟨D2,0,none⟩) m N2,.func (.func 74) #[] #[]] W6 fun e w'=>∃v m' g',e=.returned v∧m'<=m∧OnceF 130 encN 6 w' W6.heap.size v m' g'∧DistG ordN (lstF g3 m) (lstF g' m')∧Below W6.heap.size W6 w'):=once_any D2 0 m N2 g3 W6 (RowF.src hS6.row) hm1 (by omega);clear hmk hc5;go_wp2_with fail;refine HO.out.mono ?_;rintro _ w7⟨v7,m4,g4,rfl,hm4,⟨D4,N4,rfl,hD4,hmN4,hR4⟩,hd4,hb7⟩;have O7:=O6.below hb7;have B7:=below_step hb7 hB6;have HSm:Hid (IsSmall rules (ls g4 m4)):=⟨_,_,HD1.out,HSt2.out,distN_map hd4⟩;have hm4':m4<=1000:=by omega
     clear HO hd4 hb7 hS6 hB6 O6 HD1 HSt2 hc6;go_wp2_with fail;go_loopw [33,6](fun i v wr=>∃(k4:Nat)(vs:Nat->Value)(cb:Nat->Nat)(gb:Nat),k4<=m4∧i=.int .i64 k4∧OwnRs wr w.heap.size v (ls g4 k4) vs cb gb∧gb≠D4∧Row wr D4 N4 m4 g4∧Below w.heap.size w wr)(fun i _ _=>m4-(intOf i).toNat)
     case atStart=>exact⟨0,_,_,_,by omega,rfl,O7,by omega,hR4,B7⟩
     case round=>
      clear O7 hR4 B7;obtain⟨k4,vs,cb,gb,hk4,rfl,hO,hgD,hRo,hB⟩:=hrel;rename World=>W7
      by_cases hlt4:k4<m4
      ·obtain⟨c0,c1,c2,c3,c4,c5⟩:=Row.cells hRo hlt4;have hlt4':(k4:Int)<(m4:Int):=by omega
       have hnr:=(g4 k4).property;have hwl7:w.heap.size<=W7.heap.size:=hB.size;have HRA:Hid (RuAt (W7.alloc (.cells #[.iface (tN (g4 k4) 0) (pN (g4 k4) 0),.iface (tN (g4 k4) 1) (pN (g4 k4) 1),.iface (tN (g4 k4) 2) (pN (g4 k4) 2),.iface (tN (g4 k4) 3) (pN (g4 k4) 3),.iface (tN (g4 k4) 4) (pN (g4 k4) 4),.iface (tN (g4 k4) 5) (pN (g4 k4) 5)] 130)) W7.heap.size 0 (g4 k4).val):=by
        refine⟨by simp,fun i hi=> ?_⟩;have:i=0∨i=1∨i=2∨i=3∨i=4∨i=5:=by omega
        rcases this with rfl|rfl|rfl|rfl|rfl|rfl<;>simp[tN,pN]
       have HRu:Hid (Calls Tryz.prog 77 #[.pointer (some ⟨W7.heap.size,0,none⟩)] (W7.alloc (.cells #[.iface (tN (g4 k4) 0) (pN (g4 k4) 0),.iface (tN (g4 k4) 1) (pN (g4 k4) 1),.iface (tN (g4 k4) 2) (pN (g4 k4) 2),.iface (tN (g4 k4) 3) (pN (g4 k4) 3),.iface (tN (g4 k4) 4) (pN (g4 k4) 4),.iface (tN (g4 k4) 5) (pN (g4 k4) 5)] 130)) fun e w'=>∃v,e=.returned (.agg #[v])∧ownsK w' (W7.alloc (.cells #[.iface (tN (g4 k4) 0) (pN (g4 k4) 0),.iface (tN (g4 k4) 1) (pN (g4 k4) 1),.iface (tN (g4 k4) 2) (pN (g4 k4) 2),.iface (tN (g4 k4) 3) (pN (g4 k4) 3),.iface (tN (g4 k4) 4) (pN (g4 k4) 4),.iface (tN (g4 k4) 5) (pN (g4 k4) 5)] 130)).heap.size v (g4 k4).val∧Below (W7.alloc (.cells #[.iface (tN (g4 k4) 0) (pN (g4 k4) 0),.iface (tN (g4 k4) 1) (pN (g4 k4) 1),.iface (tN (g4 k4) 2) (pN (g4 k4) 2),.iface (tN (g4 k4) 3) (pN (g4 k4) 3),.iface (tN (g4 k4) 4) (pN (g4 k4) 4),.iface (tN (g4 k4) 5) (pN (g4 k4) 5)] 130)).heap.size (W7.alloc (.cells #[.iface (tN (g4 k4) 0) (pN (g4 k4) 0),.iface (tN (g4 k4) 1) (pN (g4 k4) 1),.iface (tN (g4 k4) 2) (pN (g4 k4) 2),.iface (tN (g4 k4) 3) (pN (g4 k4) 3),.iface (tN (g4 k4) 4) (pN (g4 k4) 4),.iface (tN (g4 k4) 5) (pN (g4 k4) 5)] 130)) w'):=ruleOut_any (g4 k4).val W7.heap.size 0 _ HRA.out hnr;have hb8:Below W7.heap.size W7 (W7.alloc (.cells #[.iface (tN (g4 k4) 0) (pN (g4 k4) 0),.iface (tN (g4 k4) 1) (pN (g4 k4) 1),.iface (tN (g4 k4) 2) (pN (g4 k4) 2),.iface (tN (g4 k4) 3) (pN (g4 k4) 3),.iface (tN (g4 k4) 4) (pN (g4 k4) 4),.iface (tN (g4 k4) 5) (pN (g4 k4) 5)] 130)):=(Below.refl _ _).alloc (Nat.le_refl _) _;have hz8:(W7.alloc (.cells #[.iface (tN (g4 k4) 0) (pN (g4 k4) 0),.iface (tN (g4 k4) 1) (pN (g4 k4) 1),.iface (tN (g4 k4) 2) (pN (g4 k4) 2),.iface (tN (g4 k4) 3) (pN (g4 k4) 3),.iface (tN (g4 k4) 4) (pN (g4 k4) 4),.iface (tN (g4 k4) 5) (pN (g4 k4) 5)] 130)).heap.size=W7.heap.size+1:=by simp
       clear HRA;generalize tN (g4 k4) 0=t0 at*;generalize pN (g4 k4) 0=p0 at*;generalize tN (g4 k4) 1=t1 at*;generalize pN (g4 k4) 1=p1 at*;generalize tN (g4 k4) 2=t2 at*;generalize pN (g4 k4) 2=p2 at*;generalize tN (g4 k4) 3=t3 at*;generalize pN (g4 k4) 3=p3 at*;generalize tN (g4 k4) 4=t4 at*;generalize pN (g4 k4) 4=p4 at*;generalize tN (g4 k4) 5=t5 at*;generalize pN (g4 k4) 5=p5 at*;go_wp2_with fail;generalize W7.alloc (.cells #[.iface t0 p0,.iface t1 p1,.iface t2 p2,.iface t3 p3,.iface t4 p4,.iface t5 p5] 130)=W8 at*;clear c0 c1 c2 c3 c4 c5;refine HRu.out.mono ?_;rintro _ w9⟨v9,rfl,hv9,hb9⟩;obtain⟨q9,cp9,rfl,hq9,hq9'⟩:=ownsK_block hv9 (by rw[hnr.1];omega);have hb79:Below W7.heap.size W7 w9:=hb8.trans (hb9.mono hb8.size);have hv9':ownsK w9 W7.heap.size (.slice (some ⟨q9,0,none⟩) (g4 k4).val.length cp9) (g4 k4).val:=World.ownsRow.mono hv9 (by omega);have hO9:=hO.below hb79;have hlk:(ls g4 k4).length=k4:=ls_len _ _;have hrow9:=hO9.row;rw[hlk]at hrow9;have HN:Hid (∀gg cap w1,w1.ownsRow w.heap.size 116 1 (.slice (some ⟨gg,0,none⟩) (k4+1) cap) (k4+1) ((List.range k4).map vs++[.slice (some ⟨q9,0,none⟩) (g4 k4).val.length cp9])->(w9.alloc (.cells #[.slice (some ⟨q9,0,none⟩) (g4 k4).val.length cp9] 116)).grownBy w1 u6.ownBlock->(u6.ownBlock=some gg∨gg=w9.heap.size+1)->∃vs' cb',OwnRs w1 w.heap.size (.slice (some ⟨gg,0,none⟩) (k4+1) cap) (ls g4 (k4+1)) vs' cb' gg∧gg≠D4∧Row w1 D4 N4 m4 g4∧Below w.heap.size w w1):=by
        intro gg cap w1 hown hg hat;have hDl:=RowF.lt hRo;have hgb:=(hO.row.lt gb hO.ob).1;have ha9:Below w9.heap.size w9 (w9.alloc (.cells #[.slice (some ⟨q9,0,none⟩) (g4 k4).val.length cp9] 116)):=(Below.refl _ _).alloc (Nat.le_refl _) _;have hsz9:=hb79.size;have h:=OwnRs.next hO hwl7 hb79 hv9' rfl (by rw[hlk];exact hown) hg (by simpa using hat);rw[hlk,<-ls_succ]at h;have hgD':gg≠D4:=by
         rcases hat with e|e
         ·rw[hO.ob]at e;cases e;exact hgD
         omega
        refine⟨_,_,h,hgD',?_,?_⟩
        ·have hR9:=RowF.keep (RowF.keep hRo hb79) ha9;obtain⟨hn4,f4,hr4,hf4⟩:=hR9;exact⟨hn4,f4,hr4.of_block (hg.block D4 hr4.lt (by rw[hO.ob];intro e;cases e;exact hgD rfl)),hf4⟩
        exact(below_step ha9 (below_step hb79 hB)).grown hg (by have:=ha9.size;omega) (fun z hz=>by rw[hO.ob]at hz;cases hz;omega)
       have hbm:k4+1<=maxLen:=by unfold maxLen;omega
       have hbd:(k4+1)*24<=140737488355328:=by omega
       have hws9:w.heap.size<=w9.heap.size:=Nat.le_trans hwl7 hb79.size;have ew9:(w9.alloc (.cells #[.slice (some ⟨q9,0,none⟩) (g4 k4).val.length cp9] 116)).heap.size=w9.heap.size+1:=by simp
       have HCe:Hid (∀j u,([Value.slice (some ⟨q9,0,none⟩) (g4 k4).val.length cp9])[j]? =some u->(w9.alloc (.cells #[.slice (some ⟨q9,0,none⟩) (g4 k4).val.length cp9] 116)).cell? ((⟨w9.heap.size,0,none⟩:Addr).add j)=some u):=by
        intro j u hj;rw[add_at,World.cell?_alloc_at _ _ _ _ (by simp)];simpa using hj
       clear HRu hb8 hz8 hv9 hv9' hO9 hb79 hb9 hq9 hq9' hO hRo hB hnr;generalize(g4 k4).val.length=l9 at*;go_wp2_with(at_builtin;refine wpList_append_lies _ rfl (.tmp 37) (.tmp 39) 73 rfl (w.heap.size) 116 i1 _ 1 24 Tryz.underlying73 hi1 hy0 hy1 hy2 rfl (by decide) u6 k4 ((List.range k4).map vs) rfl (hrow9.alloc _) ⟨w9.heap.size,0,none⟩ 1 1 [.slice (some ⟨q9,0,none⟩) l9 cp9] rfl rfl HCe.out (by intro u hu;simp at hu;subst hu;rfl) (by omega) hbm hbd (by rw[ew9];omega) (w9.heap.size+1) ew9 ?_);intro gg cap2 w1 hown1 hgrow hat hlt2;obtain⟨vs',cb',hO1,hg1,hR1,hB1⟩:=HN.out gg cap2 w1 hown1 hgrow hat;clear HN hown1 hgrow hat hlt2 hrow9 HCe;go_wp2;go_roundw
       case rel=>exact⟨k4+1,vs',cb',gg,by omega,by go_num,hO1,hg1,hR1,hB1⟩
       case measure=>simp[intOf];omega
      have hk4':k4=m4:=by omega
      subst hk4';have hlt4':¬(k4:Int)<(k4:Int):=by omega
      have HF:Hid (SmallPost rules w (.returned u6) W7):=⟨u6,_,vs,cb,gb,HSm.out,rfl,hO,hB⟩;clear HSm hO hRo hB;go_wp2;go_ret;exact HF.out
    have HSt2:Hid (∀out,Steps (ls (without (setAt g3 i rr) j) (m-1)) out->Steps (ls g2 m2) out):=fun out h=>HSt.out out (.more (.join hNo hF) (by rw[<-ls_join g3 rr (by have:=hF.1;have:=hF.2.1;rw[ls_len]at this;omega) (by have:=hF.2.1;rw[ls_len]at this;exact this)];exact h))
    have hm2':2<=m:=by have h1:=hF.1;have h2:=hF.2.1;rw[ls_len]at h2;omega
    have hl5:=lenAt_of hS5.c;clear HSt HDk HPk HDr HPr hS4 hB4 hNo hF;go_wp2;go_roundw
    case rel=>exact⟨m-1,_,by omega,by omega,hS5,hB5,HSt2⟩
    case measure=>omega
   have HSt2:Hid (∀out,Steps (ls (without g3 i) (m-1)) out->Steps (ls g2 m2) out):=fun out h=>HSt.out out (.more (.drop hF) (by rw[<-ls_without g3 (by have:=hF.1;rw[ls_len]at this;exact this)];exact h))
   have hm2':2<=m:=by
    obtain⟨h1,_,j,h2,h3,_⟩:=hF;rw[ls_len]at h1 h2;omega
   have hl5:=lenAt_of hS4.c;clear HSt HDk HPk HDr HPr hF;go_wp2;go_roundw
   case rel=>exact⟨m-1,_,by omega,by omega,hS4,hB4,HSt2⟩
   case measure=>omega
end Go.Proofs.YtddemlfepjkgoaaGreat
