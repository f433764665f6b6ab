import Derived.Test.YtddemlfepjkgoaaGreatQ25
set_option linter.all false
set_option maxRecDepth 200000
set_option maxHeartbeats 16000000
namespace Go.Proofs.YtddemlfepjkgoaaGreat.srtI
open Go.Shelf Go.RowKit Go.Lib Go.Sort
theorem infoElI:(Tryz.prog.info? 61).map (fun i=>(i.zero,i.size,i.bytes))=some (some (.agg #[.int .u32 0,.int .u32 0]),2,8):=by kernel_rfl
theorem once_anyI(b o n cap:Nat)(g:Nat->In)(w:World)(hs:SrcF encI 2 w b o n g)(h0:0<n)(hn:n<=1048576):
 Calls Tryz.prog 25 #[.slice (some ⟨b,o,none⟩) n cap,.func (.func 28) #[] #[]] w fun e w'=>∃v m g',e=.returned v∧m<=n∧OnceF 61 encI 2 w' w.heap.size v m g'∧DistG ordI2 (lstF g n) (lstF g' m)∧Below w.heap.size w w':=by
 obtain⟨i0,hi,hz0,hz1,hz2⟩:=info_parts infoElI
 have hbx:w.heap.size<(w.alloc (.cells #[.func (.func 28) #[] #[]] 67)).heap.size:=by simp
 have hxW:(w.alloc (.cells #[.func (.func 28) #[] #[]] 67)).cell? ⟨w.heap.size,0,none⟩=some (.func (.func 28) #[] #[]):=by simp
 have B0:Below w.heap.size w (w.alloc (.cells #[.func (.func 28) #[] #[]] 67)):=(Below.refl _ _).alloc (Nat.le_refl _) _
 have hs1:=hs.below B0
 have HCe:Hid (∀j u,((lstF g n).flatMap encI)[j]? =some u->(w.alloc (.cells #[.func (.func 28) #[] #[]] 67)).cell? ((⟨b,o,none⟩:Addr).add j)=some u):=by
  intro j u hj
  have hjl:j<n*2:=by
   have:=(List.getElem?_eq_some_iff.1 hj).1
   rw[flat_len encI_len]at this;exact this
  rw[flat_get encI_len g n j hjl]at hj
  rw[add_at,hs1.2 j hjl];exact hj
 have HOne:Hid (∀u∈(lstF g n).flatMap encI,u.oneCell'=true):=by
  intro u hu
  simp only[List.mem_flatMap]at hu
  obtain⟨p,_,hp⟩:=hu
  exact encI_one p u hp
 have HLen:Hid (((lstF g n).flatMap encI).length=n*2):=flat_len encI_len g n
 generalize hW:w.alloc (.cells #[.func (.func 28) #[] #[]] 67)=W at*
 have HRow:Hid (∀w1 v,w1.ownsRow W.heap.size 61 2 v n ((lstF g n).flatMap encI)->∃D N,v=.slice (some ⟨D,0,none⟩) n N∧W.heap.size<=D∧n<=N∧RowI w1 D N n g):=fun w1 v h=>own_rowF encI_len h0 h
 have HSort:Hid (∀w1 D N,Below W.heap.size W w1->W.heap.size<=D->RowI w1 D N n g->Calls Tryz.prog 53 #[.slice (some ⟨D,0,none⟩) n N,.func (.func 28) #[] #[]] w1 fun e w'=>e=.returned (.tuple #[])∧
  ∃g',RowI w' D N n g'∧(∀c,c∈lstF g' n↔c∈lstF g n)∧(lstF g' n).Pairwise (fun a b=>ordI2 a b<=0)∧Below W.heap.size W w'):=
  fun w1 D N hB hD hr=>sort_anyI W.heap.size D N n N g W w1 (Nat.le_refl _) hB hD hr (by omega)
 have HComp:Hid (∀w1 D N g',Below W.heap.size W w1->W.heap.size<=D->n<=N->RowI w1 D N n g'->Calls Tryz.prog 54 #[.slice (some ⟨D,0,none⟩) n N,.func (.func 55) #[] #[.pointer (some ⟨w.heap.size,0,none⟩)]] w1 fun e w'=>
  ∃m,e=.returned (.slice (some ⟨D,0,none⟩) m N)∧∃g3,RowI w' D N m g3∧lstF g3 m=compG ordI2 (lstF g' n) n∧Below W.heap.size W w'):=
  fun w1 D N g' hB hD hN hr=>compact_anyI w.heap.size W.heap.size D N n N g' W w1 (Nat.le_refl _) hB hD hbx hxW hr hN (by omega)
 have HDist:Hid (∀g' g3 m,(∀c,c∈lstF g' n↔c∈lstF g n)->(lstF g' n).Pairwise (fun a b=>ordI2 a b<=0)->lstF g3 m=compG ordI2 (lstF g' n) n->DistG ordI2 (lstF g n) (lstF g3 m)∧m<=n):=by
  intro g' g3 m h1 h2 h3
  constructor
  ·rw[h3]
   have:=compG_dist linI2 h2
   rw[lstF_len]at this
   exact distG_perm this h1
  ·have:=compG_len (ord:=ordI2) (lstF g' n) n (by rw[lstF_len];exact Nat.le_refl _)
   rw[<-h3,lstF_len]at this
   exact this
 have HB:Hid (∀w1,Below W.heap.size W w1->Below w.heap.size w w1∧(∀w2,Below W.heap.size W w2->w1.cell? ⟨w.heap.size,0,none⟩=some (.func (.func 28) #[] #[]))):=fun w1 h=>⟨B0.trans (h.mono B0.size),fun _ _=>(h.cell (p:=⟨w.heap.size,0,none⟩) hbx).trans hxW⟩
 have hwW:w.heap.size<=W.heap.size:=B0.size
 clear hs hs1 hxW B0 hbx
 generalize(lstF g n).flatMap encI=news at*
 go_enter Tryz.func25,Tryz.ntmps25
 go_wp2_with(at_builtin;refine wpList_append_own _ rfl (.const (.slice none 0 0)) (.tmp 6) 58 rfl W.heap.size 61 i0 _ 2 8 Tryz.underlying58 hi hz0 hz1 hz2 rfl (by decide) (.slice none 0 0) 0 [] rfl (World.ownsRow_nil _ _ _ _) ⟨b,o,none⟩ n cap news rfl ?c0 HCe.out HOne.out ?c3 ?c4 ?c5 ?_)
 case c0=>exact HLen.out
 case c3=>unfold maxLen;omega
 case c4=>omega
 case c5=>exact Nat.le_refl _
 intro v1 w1 ow gr _
 have B1:Below W.heap.size W w1:=(Below.refl _ _).grown gr (Nat.le_refl _) (fun q hq=>by cases hq)
 obtain⟨D,N,rfl,hD,hnN,hR1⟩:=HRow.out w1 v1 ow
 have hx1:=(HB.out w1 B1).2 W (Below.refl _ _)
 clear ow gr HCe HOne HLen HRow hi hz0 hz1 hz2 hW
 go_wp2_with fail
 refine(HSort.out w1 D N B1 hD hR1).mono ?_
 rintro e w2⟨rfl,g2,hR2,hmem,hpw,B2⟩
 clear HSort hR1 B1 hx1
 go_wp2_with fail
 refine(HComp.out w2 D N g2 B2 hD hnN hR2).mono ?_
 rintro e w3⟨m,rfl,g3,hR3,hl3,B3⟩
 obtain⟨hds,hmn⟩:=HDist.out g2 g3 m hmem hpw hl3
 have B4:=(HB.out w3 B3).1
 have hmN:=hR3.1
 clear HComp HDist hR2 hmem hpw B2 hl3 B3 HB
 go_wp2
 go_ret
 exact⟨_,m,g3,rfl,hmn,⟨D,N,rfl,by omega,hmN,hR3⟩,hds,B4⟩
end Go.Proofs.YtddemlfepjkgoaaGreat.srtI
