import Derived.Test.YtddemlfepjkgoaaGreatQ24
import Derived.Test.YtddemlfepjkgoaaGreatQ26
import Derived.Test.YtddemlfepjkgoaaGreatQ27
set_option linter.all false
set_option maxRecDepth 200000
set_option maxHeartbeats 16000000
namespace Go.Proofs.YtddemlfepjkgoaaGreat.srtU
open Go.Shelf Go.RowKit Go.Lib Go.Sort
theorem infoElU:(Tryz.prog.info? 69).map (fun i=>(i.zero,i.size,i.bytes))=some (some (.int .u64 0),1,8):=by kernel_rfl
theorem once_anyU(b o n cap:Nat)(g:Nat->Un)(w:World)(hs:SrcF encU 1 w b o n g)(h0:0<n)(hn:n<=1048576):
 Calls Tryz.prog 67 #[.slice (some ⟨b,o,none⟩) n cap,.func (.func 68) #[] #[]] w fun e w'=>∃v m g',e=.returned v∧m<=n∧OnceF 69 encU 1 w' w.heap.size v m g'∧DistG ordU (lstF g n) (lstF g' m)∧Below w.heap.size w w':=by
 obtain⟨i0,hi,hz0,hz1,hz2⟩:=info_parts infoElU
 have hbx:w.heap.size<(w.alloc (.cells #[.func (.func 68) #[] #[]] 123)).heap.size:=by simp
 have hxW:(w.alloc (.cells #[.func (.func 68) #[] #[]] 123)).cell? ⟨w.heap.size,0,none⟩=some (.func (.func 68) #[] #[]):=by simp
 have B0:Below w.heap.size w (w.alloc (.cells #[.func (.func 68) #[] #[]] 123)):=(Below.refl _ _).alloc (Nat.le_refl _) _
 have hs1:=hs.below B0
 have HCe:Hid (∀j u,((lstF g n).flatMap encU)[j]? =some u->(w.alloc (.cells #[.func (.func 68) #[] #[]] 123)).cell? ((⟨b,o,none⟩:Addr).add j)=some u):=by
  intro j u hj
  have hjl:j<n*1:=by
   have:=(List.getElem?_eq_some_iff.1 hj).1
   rw[flat_len encU_len]at this;exact this
  rw[flat_get encU_len g n j hjl]at hj
  rw[add_at,hs1.2 j hjl];exact hj
 have HOne:Hid (∀u∈(lstF g n).flatMap encU,u.oneCell'=true):=by
  intro u hu
  simp only[List.mem_flatMap]at hu
  obtain⟨p,_,hp⟩:=hu
  exact encU_one p u hp
 have HLen:Hid (((lstF g n).flatMap encU).length=n*1):=flat_len encU_len g n
 generalize hW:w.alloc (.cells #[.func (.func 68) #[] #[]] 123)=W at*
 have HRow:Hid (∀w1 v,w1.ownsRow W.heap.size 69 1 v n ((lstF g n).flatMap encU)->∃D N,v=.slice (some ⟨D,0,none⟩) n N∧W.heap.size<=D∧n<=N∧RowU w1 D N n g):=fun w1 v h=>own_rowF encU_len h0 h
 have HSort:Hid (∀w1 D N,Below W.heap.size W w1->W.heap.size<=D->RowU w1 D N n g->Calls Tryz.prog 95 #[.slice (some ⟨D,0,none⟩) n N,.func (.func 68) #[] #[]] w1 fun e w'=>e=.returned (.tuple #[])∧
  ∃g',RowU w' D N n g'∧(∀c,c∈lstF g' n↔c∈lstF g n)∧(lstF g' n).Pairwise (fun a b=>ordU a b<=0)∧Below W.heap.size W w'):=
  fun w1 D N hB hD hr=>sort_anyU W.heap.size D N n N g W w1 (Nat.le_refl _) hB hD hr (by omega)
 have HComp:Hid (∀w1 D N g',Below W.heap.size W w1->W.heap.size<=D->n<=N->RowU w1 D N n g'->Calls Tryz.prog 96 #[.slice (some ⟨D,0,none⟩) n N,.func (.func 97) #[] #[.pointer (some ⟨w.heap.size,0,none⟩)]] w1 fun e w'=>
  ∃m,e=.returned (.slice (some ⟨D,0,none⟩) m N)∧∃g3,RowU w' D N m g3∧lstF g3 m=compG ordU (lstF g' n) n∧Below W.heap.size W w'):=
  fun w1 D N g' hB hD hN hr=>compact_anyU w.heap.size W.heap.size D N n N g' W w1 (Nat.le_refl _) hB hD hbx hxW hr hN (by omega)
 have HDist:Hid (∀g' g3 m,(∀c,c∈lstF g' n↔c∈lstF g n)->(lstF g' n).Pairwise (fun a b=>ordU a b<=0)->lstF g3 m=compG ordU (lstF g' n) n->DistG ordU (lstF g n) (lstF g3 m)∧m<=n):=by
  intro g' g3 m h1 h2 h3
  constructor
  ·rw[h3]
   have:=compG_dist linU h2
   rw[lstF_len]at this
   exact distG_perm this h1
  ·have:=compG_len (ord:=ordU) (lstF g' n) n (by rw[lstF_len];exact Nat.le_refl _)
   rw[<-h3,lstF_len]at this
   exact this
 have HB:Hid (∀w1,Below W.heap.size W w1->Below w.heap.size w w1∧(∀w2,Below W.heap.size W w2->w1.cell? ⟨w.heap.size,0,none⟩=some (.func (.func 68) #[] #[]))):=fun w1 h=>⟨B0.trans (h.mono B0.size),fun _ _=>(h.cell (p:=⟨w.heap.size,0,none⟩) hbx).trans hxW⟩
 have hwW:w.heap.size<=W.heap.size:=B0.size
 clear hs hs1 hxW B0 hbx
 generalize(lstF g n).flatMap encU=news at*
 go_enter Tryz.func67,Tryz.ntmps67
 go_wp2_with(at_builtin;refine wpList_append_own _ rfl (.const (.slice none 0 0)) (.tmp 6) 37 rfl W.heap.size 69 i0 _ 1 8 Tryz.underlying37 hi hz0 hz1 hz2 rfl (by decide) (.slice none 0 0) 0 [] rfl (World.ownsRow_nil _ _ _ _) ⟨b,o,none⟩ n cap news rfl ?c0 HCe.out HOne.out ?c3 ?c4 ?c5 ?_)
 case c0=>exact HLen.out
 case c3=>unfold maxLen;omega
 case c4=>omega
 case c5=>exact Nat.le_refl _
 intro v1 w1 ow gr _
 have B1:Below W.heap.size W w1:=(Below.refl _ _).grown gr (Nat.le_refl _) (fun q hq=>by cases hq)
 obtain⟨D,N,rfl,hD,hnN,hR1⟩:=HRow.out w1 v1 ow
 have hx1:=(HB.out w1 B1).2 W (Below.refl _ _)
 clear ow gr HCe HOne HLen HRow hi hz0 hz1 hz2 hW
 go_wp2_with fail
 refine(HSort.out w1 D N B1 hD hR1).mono ?_
 rintro e w2⟨rfl,g2,hR2,hmem,hpw,B2⟩
 clear HSort hR1 B1 hx1
 go_wp2_with fail
 refine(HComp.out w2 D N g2 B2 hD hnN hR2).mono ?_
 rintro e w3⟨m,rfl,g3,hR3,hl3,B3⟩
 obtain⟨hds,hmn⟩:=HDist.out g2 g3 m hmem hpw hl3
 have B4:=(HB.out w3 B3).1
 have hmN:=hR3.1
 clear HComp HDist hR2 hmem hpw B2 hl3 B3 HB
 go_wp2
 go_ret
 exact⟨_,m,g3,rfl,hmn,⟨D,N,rfl,by omega,hmN,hR3⟩,hds,B4⟩
end Go.Proofs.YtddemlfepjkgoaaGreat.srtU
namespace Go.Proofs.YtddemlfepjkgoaaGreat
open Go.RowKit Go.Deep
set_option linter.unusedSimpArgs false
section
variable{α:Type}{P:α->Prop}
def subF [Inhabited {x//P x}](l:List α)(h:∀x∈l,P x)(i:Nat):{x//P x}:=if hi:i<l.length then⟨l[i],h _ (List.getElem_mem hi)⟩else default
theorem subF_at [Inhabited {x//P x}]{l:List α}(h:∀x∈l,P x){i:Nat}(hi:i<l.length):(subF l h i).val=l[i]:=by unfold subF;rw[dif_pos hi]
theorem subF_list [Inhabited {x//P x}](l:List α)(h:∀x∈l,P x):(lstF (subF l h) l.length).map Subtype.val=l:=by
 apply List.ext_getElem
 ·simp[lstF]
 intro i h1 h2;simp[lstF,subF_at h h2]
theorem distG_sub{ord:α->α->Int}{l d:List {x//P x}}(h:DistG (fun p q:{x//P x}=>ord p.val q.val) l d):DistG ord (l.map Subtype.val) (d.map Subtype.val):=by
 refine⟨List.pairwise_map.2 h.1,fun c=> ?_⟩;rw[List.mem_map,List.mem_map];constructor
 ·rintro⟨p,hp,rfl⟩;exact⟨p,(h.2 p).1 hp,rfl⟩
 rintro⟨p,hp,rfl⟩;exact⟨p,(h.2 p).2 hp,rfl⟩
end
theorem distG_pos{α:Type}{ord:α->α->Int}{l d:List α}(h:DistG ord l d)(h0:0<l.length):0<d.length:=by
 have:=(h.2 l[0]).2 (List.getElem_mem h0);exact List.length_pos_of_mem this
theorem onceU_l(l:List Int)(a:Option Addr)(cap:Nat)(w:World)(hs:USrc w a l)(hu:∀x∈l,isU64 x)(h0:0<l.length)(hn:l.length<=1000):
 Calls Tryz.prog 67 #[.slice a l.length cap,.func (.func 68) #[] #[]] w fun e w'=>∃a' d cap',e=.returned (.slice a' d.length cap')∧USrc w' a' d∧DistG ordI l d∧d.length<=l.length∧Below w.heap.size w w':=by
 obtain⟨b,o,rfl,hlt,_⟩:=USrc.at hs 0 h0;obtain⟨_,_,e,hc⟩:=usrc_at hs h0
 cases e;refine(srtU.once_anyU b o l.length cap (subF l hu) w ⟨hlt,fun j hj=> ?_⟩ h0 (by omega)).mono ?_
 ·rw[Nat.mul_one]at hj;have e:=cellsF_at (enc:=srtU.encU) (k:=1) (subF l hu) j (r:=0) (by omega);rw[Nat.mul_one,Nat.add_zero]at e;rw[hc j hj,e];simp[srtU.encU,subF_at hu hj,List.getD_eq_getElem?_getD,hj]
 rintro e w'⟨v,m,g',rfl,hm,⟨D,N,rfl,hD,hN,hR⟩,hd,hB⟩;have hd':DistG ordI l ((lstF g' m).map Subtype.val):=by
  have:=distG_sub (ord:=ordI) hd;rwa [subF_list]at this
 refine⟨_,(lstF g' m).map Subtype.val,N,by simp[lstF],.inr ⟨D,0,rfl,hR.lt,fun i hi=> ?_⟩,hd',by simpa[lstF]using hm,hB⟩;rw[List.length_map,lstF_len]at hi;have e:=cellsF_at (enc:=srtU.encU) (k:=1) g' i (r:=0) (by omega);rw[Nat.mul_one,Nat.add_zero]at e;rw[hR.src.2 i (by omega),e];simp[srtU.encU,lstF,hi]
theorem onceA_l(l:List La)(a:Option Addr)(cap:Nat)(w:World)(hs:LSrc 6 PA w a l)(hu:∀x∈l,okLa x)(h0:0<l.length)(hn:l.length<=1000):
 Calls Tryz.prog 29 #[.slice a l.length cap,.func (.func 30) #[] #[]] w fun e w'=>∃a' d cap',e=.returned (.slice a' d.length cap')∧LSrc 6 PA w' a' d∧DistG ordL l d∧d.length<=l.length∧d.length<=cap'∧Below w.heap.size w w':=by
 rcases hs with rfl|⟨b,o,rfl,hlt,hA⟩
 ·simp at h0
 have six:∀(x:La)(hx:okLa x)(q:Nat),q<6->(srtA.encA ⟨x,hx⟩).getD q undef=.int .u64 (x.getD q 0):=fun x hx q hq=>by
  match q,hq with
  |0,_=>rfl|1,_=>rfl|2,_=>rfl|3,_=>rfl|4,_=>rfl|5,_=>rfl
 refine(srtA.once_anyA b o l.length cap (subF l hu) w ⟨hlt,fun j hj=> ?_⟩ h0 (by omega)).mono ?_
 ·have h1:j/6<l.length:=by omega
  have h2:j%6<6:=Nat.mod_lt _ (by omega);have h3:=hA (j/6) h1 (j%6) h2;rw[show o+j/6*6+j%6=o+j by omega]at h3;rw[h3];unfold cellsF;have e:subF l hu (j/6)=⟨l[j/6],hu _ (List.getElem_mem h1)⟩:=Subtype.ext (subF_at hu h1);rw[e,six _ _ _ h2]
 rintro e w'⟨v,m,g',rfl,hm,⟨D,N,rfl,hD,hN,hR⟩,hd,hB⟩;have hd':DistG ordL l ((lstF g' m).map Subtype.val):=by
  have:=distG_sub (ord:=ordL) hd;rwa [subF_list]at this
 refine⟨_,(lstF g' m).map Subtype.val,N,by simp[lstF],.inr ⟨D,0,rfl,hR.lt,fun i hi q hq=> ?_⟩,hd',by simpa[lstF]using hm,by simpa[lstF]using hN,hB⟩;rw[List.length_map,lstF_len]at hi;have e:=cellsF_at (enc:=srtA.encA) (k:=6) g' i (r:=q) hq;rw[Nat.add_assoc,hR.src.2 (i*6+q) (by omega),e,six (g' i).val (g' i).property q hq,List.getElem_map];simp[lstF]
def PI2(w:World)(b o:Nat)(i:Id2):Prop:=w.cell? ⟨b,o,none⟩=some (.int .u32 i.1)∧w.cell? ⟨b,o+1,none⟩=some (.int .u32 i.2)
theorem PI2.stays:Stays PI2:=fun w w' b o x hlt hb h=>⟨(hb.cell (p:=⟨b,_,none⟩) hlt).trans h.1,(hb.cell (p:=⟨b,_,none⟩) hlt).trans h.2⟩
theorem rowI_src {w : World} {B : Nat} {v : Value} {xs : List Id2} (h : w.ownsRow B 61 2 v xs.length (xs.flatMap cIq)) : ∃ a cap, v = .slice a xs.length cap ∧ LSrc 2 PI2 w a xs := by
  obtain ⟨h0, ⟨rfl, h1⟩ | ⟨g, cap, cur, rfl, h2, h3, h4, h5, h6, h7⟩⟩ := h
  · exact ⟨none, 0, by rw [h1], .inl (List.length_eq_zero_iff.1 h1)⟩
  · have key : ∀ i (hi : i < xs.length) q, q < 2 -> w.cell? ⟨g, 0 + i * 2 + q, none⟩ = (cIq xs[i])[q]? := fun i hi q hq => by
      rw [cell_of_row w g _ cur _ _ h3, Nat.zero_add, <- Array.getElem?_toList, <- List.getElem?_take_of_lt (show i * 2 + q < xs.length * 2 by omega), h7, flat_at cIq 2 (fun _ => rfl) xs i q hi hq]
    exact ⟨_, cap, rfl, .inr ⟨g, 0, rfl, (Array.getElem?_eq_some_iff.1 h3).1, fun i hi => ⟨key i hi 0 (by omega), key i hi 1 (by omega)⟩⟩⟩
theorem onceI_l(l:List Id2)(a:Option Addr)(cap:Nat)(w:World)(hs:LSrc 2 PI2 w a l)(hu:∀x∈l,srtI.okI x)(h0:0<l.length)(hn:l.length<=1000):
 Calls Tryz.prog 25 #[.slice a l.length cap,.func (.func 28) #[] #[]] w fun e w'=>∃a' d cap',e=.returned (.slice a' d.length cap')∧LSrc 2 PI2 w' a' d∧DistG ordP l d∧d.length<=l.length∧(∀x,a'=some x->w.heap.size<=x.block)∧Below w.heap.size w w':=by
 rcases hs with rfl|⟨b,o,rfl,hlt,hA⟩
 ·simp at h0
 refine(srtI.once_anyI b o l.length cap (subF l hu) w ⟨hlt,fun j hj=> ?_⟩ h0 (by omega)).mono ?_
 ·have h1:j/2<l.length:=by omega
  have h3:=hA (j/2) h1;unfold cellsF;have e:subF l hu (j/2)=⟨l[j/2],hu _ (List.getElem_mem h1)⟩:=Subtype.ext (subF_at hu h1);rw[e];rcases Nat.mod_two_eq_zero_or_one j with h|h
  ·rw[show o+j=o+j/2*2 by omega,h3.1,h];rfl
  rw[show o+j=o+j/2*2+1 by omega,h3.2,h];rfl
 rintro e w'⟨v,m,g',rfl,hm,⟨D,N,rfl,hD,hN,hR⟩,hd,hB⟩;have hd':DistG ordP l ((lstF g' m).map Subtype.val):=by
  have:=distG_sub (ord:=ordP) hd;rwa [subF_list]at this
 refine⟨_,(lstF g' m).map Subtype.val,N,by simp[lstF],.inr ⟨D,0,rfl,hR.lt,fun i hi=> ?_⟩,hd',by simpa[lstF]using hm,fun x hx=>by cases hx;exact hD,hB⟩;rw[List.length_map,lstF_len]at hi;have key:∀q,q<2->w'.cell? ⟨D,0+(i*2+q),none⟩=some ((srtI.encI (g' i)).getD q undef):=fun q hq=>by
  rw[hR.src.2 (i*2+q) (by omega),cellsF_at (enc:=srtI.encI) (k:=2) g' i hq]
 have k0:=key 0 (by omega);have k1:=key 1 (by omega);rw[List.getElem_map];refine⟨?_,?_⟩
 ·rw[Nat.add_zero]at k0;rw[k0];simp[srtI.encI,lstF]
 rw[Nat.add_assoc,k1];simp[srtI.encI,lstF]
end Go.Proofs.YtddemlfepjkgoaaGreat
namespace Go.Proofs.YtddemlfepjkgoaaGreat
open Go.RowKit Go.Deep
set_option linter.unusedSimpArgs false
def IsGroups(t:List La)(ex sp:Int)(gs:List (List La)):Prop:=
 ((t.length:Int)<=ex∧gs=t.map fun a=>[a])∨(¬(t.length:Int)<=ex∧((∃j d,j<6∧MaySplit t sp j∧(∀i,i<j->¬MaySplit t sp i)∧Diff t j d∧gs=d.map fun v=>withV t j v)∨((∀i,i<6->¬MaySplit t sp i)∧gs=[t])))
theorem IsGroups.rules{t:List La}{ex sp f:Int}{gs:List (List La)}(ht:∀a∈t,okLa a)(hf:0<=f∧f<=2)(h:IsGroups t ex sp gs):IsRules t ex sp f (gs.map fun g=>coverR g f):=by
 unfold IsRules;rcases h with⟨h1,rfl⟩|⟨h1,⟨j,d,h2,h3,h4,h5,rfl⟩|⟨h2,rfl⟩⟩
 ·rw[if_pos h1,List.map_map];refine List.map_congr_left fun a ha=> ?_
  unfold Function.comp coverR exactR;refine List.map_congr_left fun i hi=> ?_
  rw[List.mem_range]at hi;have h3:=(ht a ha).lt i;refine cover_const (v:=(a.getD i 0).toNat) h3.1 (by simp[colN]) (fun q hq=> ?_) hf;obtain rfl:q=0:=by simp[colN]at hq;omega
  simp[colN]
 ·rw[if_neg h1];exact .inl ⟨j,d,h2,h3,h4,h5,by rw[List.map_map];rfl⟩
 rw[if_neg h1];exact .inr ⟨h2,rfl⟩
theorem IsGroups.mem{t:List La}{ex sp:Int}{gs:List (List La)}(h0:0<t.length)(ht:∀a∈t,okLa a)(h:IsGroups t ex sp gs):gs.length<=t.length∧∀g∈gs,0<g.length∧g.length<=t.length∧∀a∈g,a∈t:=by
 rcases h with⟨h1,rfl⟩|⟨h1,⟨j,d,h2,h3,h4,h5,rfl⟩|⟨h2,rfl⟩⟩
 ·refine⟨by simp,fun g hg=> ?_⟩;obtain⟨a,ha,rfl⟩:=List.mem_map.1 hg;exact⟨by simp,by simp;omega,fun x hx=>by simp at hx;subst hx;exact ha⟩
 ·refine⟨by rw[List.length_map];exact(diff_nn ht h5).2,fun g hg=> ?_⟩;obtain⟨v,hv,rfl⟩:=List.mem_map.1 hg;obtain⟨a,ha,e⟩:=diff_mem h5 hv;have hm:a∈withV t j v:=List.mem_filter.2 ⟨ha,by simpa using e⟩;exact⟨List.length_pos_of_mem hm,List.length_filter_le _ _,fun x hx=>(List.mem_filter.1 hx).1⟩
 exact⟨by simp;omega,fun g hg=>by simp at hg;subst hg;exact⟨h0,Nat.le_refl _,fun x hx=>hx⟩⟩
theorem asc_getD{d:List Int}(h:AscG ordI d):∀p q,p<q->q<d.length->d.getD p 0<d.getD q 0:=fun p q hpq hq=>by
 have:=ordI_lt.1 ((List.pairwise_iff_getElem.1 h) p q (by omega) hq hpq);rw[List.getD_eq_getElem?_getD,List.getD_eq_getElem?_getD,List.getElem?_eq_getElem (show p<d.length by omega),List.getElem?_eq_getElem hq];simpa using this
theorem ownsU_plain{w:World}{B:Nat}{v:Value}{l:List Int}(h:ownsU w B v l):∃a cap,v=.slice a l.length cap∧USrc w a l:=by
 obtain⟨a,c,h1,h2⟩:=ownsU_src h;exact⟨a,c,h1,h2⟩
theorem groupLists_any (t : List La) (a : Option Addr) (cap : Nat) (ex sp f : Int) (w : World) (hs : LSrc 6 PA w a t) (hcap : t.length <= cap) (ht : ∀ x ∈ t, okLa x) (h0 : 0 < t.length) (hn : t.length <= 1000) (hx : 0 <= ex ∧ ex <= 200) (hsp : 0 <= sp ∧ sp <= 200) :
    Calls Tryz.prog 32 #[.slice a t.length cap, .agg #[.int .i64 ex, .int .i64 sp, .int .i64 f]] w fun e w' => ∃ gs, IsGroups t ex sp gs ∧ GrpP gs w e w' := by
  obtain ⟨b, o, rfl, hbl, _⟩ := hs.addr (by intro e; rw [e] at h0; simp at h0)
  have X1 := Box3.new w 25 (.int .i64 ex) (.int .i64 sp) (.int .i64 f)
  have B1 : Below w.heap.size w (w.alloc (.cells #[.int .i64 ex, .int .i64 sp, .int .i64 f] 25)) := (Below.refl _ _).alloc (Nat.le_refl _) _
  go_enter Tryz.func32, Tryz.ntmps32
  by_cases hex : (t.length : Int) <= ex
  · have HC : Hid (∀ W, Below w.heap.size w W -> Calls Tryz.prog 65 #[.func (.func 94) #[] #[.pointer (some ⟨W.heap.size, 0, none⟩), .pointer (some ⟨W.heap.size + 1, 0, none⟩)]] ((W.alloc (.cells #[.slice (some ⟨b, o, none⟩) t.length cap] 66)).alloc (.cells #[.int .i64 1] 3)) (fun e w' => ∃ v, e = .returned v ∧ ∃ gs, IsGroups t ex sp gs ∧ GrpP gs w (.returned v) w')) := fun W hB => by
      have hsz : ((W.alloc (.cells #[.slice (some ⟨b, o, none⟩) t.length cap] 66)).alloc (.cells #[.int .i64 1] 3)).heap.size = W.heap.size + 1 + 1 := by simp
      have hB2 : Below W.heap.size W ((W.alloc (.cells #[.slice (some ⟨b, o, none⟩) t.length cap] 66)).alloc (.cells #[.int .i64 1] 3)) := ((Below.refl _ _).alloc (Nat.le_refl _) _).alloc (by simp) _
      have e1 : ((W.alloc (.cells #[.slice (some ⟨b, o, none⟩) t.length cap] 66)).alloc (.cells #[.int .i64 1] 3)).cell? ⟨W.heap.size, 0, none⟩ = some (.slice (some ⟨b, o, none⟩) t.length cap) := by
        refine cell_step ((Below.refl _ _).alloc (Nat.le_refl _) _) ?_
        exact box1 W 66 _
      have e2 := box1 (W.alloc (.cells #[.slice (some ⟨b, o, none⟩) t.length cap] 66)) 3 (.int .i64 1)
      rw [show (W.alloc (.cells #[.slice (some ⟨b, o, none⟩) t.length cap] 66)).heap.size = W.heap.size + 1 by simp] at e2
      refine (collectL_any b o _ _ _ _ t.length _ (enters_of Tryz.func94 (by kernel_rfl) rfl) (chunk_stops 2 (by omega) _ _ _ b o t.length cap hn hcap (by rw [hsz]; omega) (by rw [hsz]; omega) _ (by rw [hsz]; omega) (by rw [hsz]; omega) e1 e2) hn).mono ?_
      rintro e w' ⟨v, xs, rfl, rfl, h2, h3⟩
      have hB3 := below_step h3 (below_step hB2 hB)
      obtain ⟨av, cv, rfl, hg⟩ := chunks_src hs hB3 h2
      exact ⟨_, rfl, _, .inl ⟨hex, rfl⟩, av, cv, rfl, hg, hB3⟩
    obtain ⟨_, c0, c1, c2, _, _, _⟩ := X1
    go_wp2_with fail
    refine (chunk_any _ _ _ _).mono ?_
    rintro _ _ ⟨rfl, rfl⟩
    generalize w.alloc (.cells #[.int .i64 ex, .int .i64 sp, .int .i64 f] 25) = W1 at *
    have HC1 := HC.out W1 B1
    have HC2 : Hid _ := HC1
    clear HC HC1
    go_wp2_with fail
    refine Calls.mono HC2.out ?_
    rintro _ w2 ⟨v, rfl, hfin⟩
    go_wp2
    go_ret
    exact hfin
  · have HV : Hid (∀ (k : Nat) W, k < 6 -> Below w.heap.size w W -> Calls Tryz.prog 64 #[.slice (some ⟨b, o, none⟩) t.length cap, .int .i64 (k : Int)] W fun e w' => ∃ av cv, e = .returned (.slice av t.length cv) ∧ Below W.heap.size W w' ∧ Calls Tryz.prog 67 #[.slice av t.length cv, .func (.func 68) #[] #[]] w' fun e w'' => ∃ (ad : Option Addr) (d : List Int) (cd : Nat), e = .returned (.slice ad d.length cd) ∧ Below w'.heap.size w' w'' ∧ (¬ (2 <= d.length ∧ (d.length : Int) <= sp) -> ¬ MaySplit t sp k) ∧ d.length <= 1000 ∧ (2 <= d.length -> (d.length : Int) <= sp -> (∀ i, i < k -> ¬ MaySplit t sp i) -> Calls Tryz.prog 69 #[.slice (some ⟨b, o, none⟩) t.length cap, .int .i64 (k : Int), .slice ad d.length cd] w'' fun e w3 => ∃ v, e = .returned v ∧ ∃ gs, IsGroups t ex sp gs ∧ GrpP gs w (.returned v) w3)) := fun k W hk hB => by
      refine (valuesAt_any t _ cap k W (hs.below PA.stays hB) hk hn).mono ?_
      rintro e w1 ⟨v, rfl, ho, hB1⟩
      obtain ⟨av, cv, rfl, hu⟩ := ownsU_plain ho
      have hl : (t.map fun x => x.getD k 0).length = t.length := by simp
      refine ⟨av, cv, by rw [hl], hB1, ?_⟩
      have h1 := onceU_l (t.map fun x => x.getD k 0) av cv w1 hu (fun x hx => by
        obtain ⟨a, ha, rfl⟩ := List.mem_map.1 hx
        have := (ht a ha).lt k
        unfold isU64
        unfold argN at this
        omega) (by rw [hl]; exact h0) (by rw [hl]; exact hn)
      rw [hl] at h1
      refine h1.mono ?_
      rintro e w2 ⟨ad, d, cd, rfl, hd, hD, hdl, hB2⟩
      have hD' : Diff t k d := hD
      have hB3 := below_step hB2 (below_step hB1 hB)
      refine ⟨ad, d, cd, rfl, hB2, fun h => ?_, by omega, fun g1 g2 g3 => ?_⟩
      · rw [maySplit_iff hD']; exact h
      · refine (splitLists_any t _ cap k d ad cd w2 (hs.below PA.stays hB3) hd hk hn (by omega) (by omega) (asc_getD hD.1) (fun x hx => (hD.2 _).2 (List.mem_map.2 ⟨x, hx, rfl⟩))).mono ?_
        rintro e w3 ⟨av3, cv3, rfl, hg, hB4⟩
        exact ⟨_, rfl, _, .inr ⟨hex, .inl ⟨k, d, hk, (maySplit_iff hD').2 ⟨g1, g2⟩, g3, hD', rfl⟩⟩, av3, cv3, rfl, hg, below_step hB4 hB3⟩
    have HF : Hid (∀ W, Below w.heap.size w W -> (∀ i, i < 6 -> ¬ MaySplit t sp i) -> ∃ gs, IsGroups t ex sp gs ∧ GrpP gs w (.returned (.slice (some ⟨W.heap.size, 0, none⟩) 1 1)) (W.alloc (.cells #[.slice (some ⟨b, o, none⟩) t.length cap] 66))) := fun W hB hno => by
      have hb := (Below.refl _ W).alloc (Nat.le_refl _) (.cells #[.slice (some ⟨b, o, none⟩) t.length cap] 66)
      refine ⟨[t], .inr ⟨hex, .inr ⟨hno, rfl⟩⟩, _, _, rfl, .inr ⟨_, _, rfl, by simp, fun i hi => ?_⟩, below_step hb hB⟩
      obtain rfl : i = 0 := by simp at hi; omega
      exact ⟨_, _, by rw [Nat.zero_mul]; exact box1 W 66 _, hs.below PA.stays (below_step hb hB)⟩
    clear hs ht hcap
    obtain ⟨_, c0, c1, c2, _, _, _⟩ := X1
    have HC : Hid (∀ W, Below (w.alloc (.cells #[.int .i64 ex, .int .i64 sp, .int .i64 f] 25)).heap.size (w.alloc (.cells #[.int .i64 ex, .int .i64 sp, .int .i64 f] 25)) W -> W.cell? ⟨w.heap.size, 1, none⟩ = some (.int .i64 sp)) := fun W hb => cell_step hb c1
    generalize t.length = n at *
    go_wp2_with fail
    generalize w.alloc (.cells #[.int .i64 ex, .int .i64 sp, .int .i64 f] 25) = W1 at *
    go_loopw [15] (fun i wr => ∃ k : Nat, k <= 6 ∧ i = .int .i64 k ∧ Hid (∀ i, i < k -> ¬ MaySplit t sp i) ∧ Below W1.heap.size W1 wr) (fun i _ => 6 - (intOf i).toNat)
    case atStart => exact ⟨0, by omega, rfl, fun i hi => by omega, Below.refl _ _⟩
    case round =>
      clear c0 c1 c2
      obtain ⟨k, hk, rfl, HN, hB⟩ := hrel
      rename World => wr
      have hBw := below_step hB B1
      by_cases hk6 : k < 6
      · have hk6' : (k : Int) < 6 := by omega
        have H1 : Hid _ := HV.out k wr hk6 hBw
        clear HF HV
        go_wp2_with fail
        refine Calls.mono H1.out ?_
        rintro _ w1 ⟨av, cv, rfl, hB1, h2⟩
        have H2 : Hid _ := h2
        clear h2 H1
        go_wp2_with fail
        refine Calls.mono H2.out ?_
        rintro _ w2 ⟨ad, d, cd, rfl, hB2, hno, hdl, hyes⟩
        have H3 : Hid _ := hyes
        have HNo : Hid _ := hno
        have hB3 := below_step hB2 (below_step hB1 hB)
        have c1 := HC.out w2 hB3
        clear hyes hno H2 HC hB1 hB2
        by_cases h2d : 2 <= d.length
        · have h2d' : (2 : Int) <= (d.length : Int) := by omega
          by_cases hds : (d.length : Int) <= sp
          · have H4 : Hid _ := H3.out h2d hds HN.out
            clear H3 HNo HN
            generalize d.length = m at *
            go_wp2_with fail
            refine Calls.mono H4.out ?_
            rintro _ w3 ⟨v, rfl, hfin⟩
            go_wp2
            go_ret
            exact hfin
          · have HN2 : Hid (∀ i, i < k + 1 -> ¬ MaySplit t sp i) := fun i hi => by
              rcases Nat.lt_or_ge i k with h | h
              · exact HN.out i h
              · obtain rfl : i = k := by omega
                exact HNo.out fun g => hds g.2
            clear H3 HNo HN
            generalize d.length = m at *
            go_wp2
            go_roundw
            case rel => exact ⟨k + 1, by omega, by go_num, HN2, hB3⟩
            case measure => simp [intOf]; omega
        · have h2d' : ¬ (2 : Int) <= (d.length : Int) := by omega
          have HN2 : Hid (∀ i, i < k + 1 -> ¬ MaySplit t sp i) := fun i hi => by
            rcases Nat.lt_or_ge i k with h | h
            · exact HN.out i h
            · obtain rfl : i = k := by omega
              exact HNo.out fun g => h2d g.1
          clear H3 HNo HN
          generalize d.length = m at *
          go_wp2
          go_roundw
          case rel => exact ⟨k + 1, by omega, by go_num, HN2, hB3⟩
          case measure => simp [intOf]; omega
      · obtain rfl : k = 6 := by omega
        have HR : Hid _ := HF.out wr hBw HN.out
        clear HF HV HC HN
        go_wp2
        go_ret
        exact HR.out
end Go.Proofs.YtddemlfepjkgoaaGreat
