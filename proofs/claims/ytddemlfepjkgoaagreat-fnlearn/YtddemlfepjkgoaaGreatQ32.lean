import Derived.Test.YtddemlfepjkgoaaGreatQ31
set_option linter.all false
set_option maxRecDepth 200000
set_option maxHeartbeats 16000000
namespace Go.Proofs.YtddemlfepjkgoaaGreat
open Go.RowKit
open srtR
def setAt(g:Nat->Rn)(i:Nat)(r:Rn)(j:Nat):Rn:=if j=i then r else g j
theorem ls_set(g:Nat->Rn){n i:Nat}(r:Rn)(h:i<n):ls (setAt g i r) n=(ls g n).set i r.val:=by
 apply List.ext_getElem
 ·rw[ls_len,List.length_set,ls_len]
 intro j h1 h2;rw[ls_len]at h1;rw[List.getElem_set];simp only[ls,lstF,List.getElem_map,List.getElem_range,setAt];by_cases e:i=j
 ·subst e;simp
 rw[if_neg (fun h=>e h.symm),if_neg e]
theorem ls_join(g:Nat->Rn){n i j:Nat}(r:Rn)(hi:i<n)(hj:j<n):ls (without (setAt g i r) j) (n-1)=((ls g n).set i r.val).eraseIdx j:=by
 rw[ls_without _ hj,ls_set g r hi]
def PairPost(B:Nat)(W:World)(L D N n:Nat)(g:Nat->Rn)(e:Ending)(w':World):Prop:=
 Below B W w'∧((NoJ (ls g n)∧e=.returned (.bool false)∧St w' L D N n g)∨(∃i j r,FirstJ (ls g n) i j r.val∧e=.returned (.bool true)∧St w' L D N (n-1) (without (setAt g i r) j)))
theorem pair_any(B L D N n:Nat)(g:Nat->Rn)(W w:World)(hBW:B<=W.heap.size)(hb:Below B W w)(hD:B<=D)(hL:B<=L)(hs:St w L D N n g)(hn:n<=16777216):
 Calls Tryz.prog 76 #[.pointer (some ⟨L,0,none⟩)] w fun e w'=>PairPost B W L D N n g e w':=by
 have HS:Hid (∀wr,Below w.heap.size w wr->St wr L D N n g∧Below B W wr):=fun wr h=>⟨hs.keep h,belowB_step' hBW h hb⟩
 have HW:Hid (∀wr p q,Below w.heap.size w wr->p<n->q<n->Calls Tryz.prog 109 #[.pointer (some ⟨D,p*6,none⟩),.pointer (some ⟨D,q*6,none⟩)] wr fun e w'=>JoinPost (g p).val (g q).val e∧Below wr.heap.size wr w'):=
  fun wr p q h hp hq=>joinP_any _ _ _ _ _ _ wr (g p).property (g q).property (Row.ruAt (hs.keep h).row hp) (Row.ruAt (hs.keep h).row hq)
 have HUp:Hid (∀k,k<n->NoJupto (ls g n) k->(∀q,k<q->q<n->NoJoin (g k).val (g q).val)->NoJupto (ls g n) (k+1)):=by
  intro k hk h h1 p hp q hpq hq
  rw[ls_len]at hq
  by_cases e:p=k
  ·subst e
   rw[ls_at g hk,ls_at g hq];exact h1 q hpq hq
  ·exact h p (by omega) q hpq (by rw[ls_len];exact hq)
 have HP0:Hid (NoJupto (ls g n) n->NoJ (ls g n)):=fun h=>by unfold NoJ;rw[ls_len];exact h
 have HF:Hid (∀k q r,k<q->q<n->NoJupto (ls g n) k->(∀j,k<j->j<q->NoJoin (g k).val (g j).val)->JoinR (g k).val (g q).val r->NR r∧FirstJ (ls g n) k q r):=by
  intro k q r hkq hq h h1 h2
  refine⟨h2.normal (g k).property (g q).property,hkq,by rw[ls_len];exact hq,h,fun j hj hjq=> ?_,?_⟩
  ·rw[ls_at g (by omega),ls_at g (by omega)];exact h1 j hj hjq
  ·rw[ls_at g (by omega),ls_at g hq];exact h2
 have HD:Hid (∀wr k q(r:Rn),Below w.heap.size w wr->k<n->q<n->Calls Tryz.prog 108 #[.slice (some ⟨D,0,none⟩) n N,.int .i64 q,.int .i64 ((q:Int)+1)] (wr.setCells D (k*6) (encN r)) fun e w'=>e=.returned (.slice (some ⟨D,0,none⟩) (n-1) N)∧Row w' D N (n-1) (without (setAt g k r) q)∧Below B W w'∧w'.cell? ⟨L,0,none⟩=some (.slice (some ⟨D,0,none⟩) n N)∧w'.frozen? ⟨L,0,none⟩=false):=by
  intro wr k q r h hk hq
  obtain⟨m,rfl⟩:∃m,n=m+1:=⟨n-1,by omega⟩
  have s:=hs.keep h
  have hl:=cell_ltK s.c
  have hr:Row (wr.setCells D (k*6) (encN r)) D N (m+1) (setAt g k r):=RowF.set s.row k r (encN_len r) (by decide)
  have o1:Only D wr (wr.setCells D (k*6) (encN r)):=Only.setCells _ _ _ (Only.refl D wr)
  refine(delete_any D N m N q (setAt g k r) _ hr hq s.row.1 hn (Nat.le_refl _)).mono ?_
  rintro e w'⟨rfl,hr,ho⟩
  have o2:=o1.trans ho
  exact⟨rfl,hr,o2.below hBW (belowB_step' hBW h hb) hD,(o2.cell (p:=⟨L,0,none⟩) s.ne hl).trans s.c,(o2.frozen (p:=⟨L,0,none⟩) s.ne hl).trans s.f⟩
 have HOp:Hid (∀wr k,Below w.heap.size w wr->k<n->∀j,j<6->∃v,wr.cell? ⟨D,k*6+j,none⟩=some v∧wr.frozen? ⟨D,k*6+j,none⟩=false):=fun wr k h hk j hj=>RowF.open (hs.keep h).row _ (by have:=(hs.keep h).row.1;omega)
 have hc:=hs.c
 have hne:=hs.ne
 have hDl:=RowF.lt hs.row
 clear hs hb
 go_enter Tryz.func76,Tryz.ntmps76
 go_wp2_with fail
 clear hc
 go_loopw [13](fun i wr=>∃k:Nat,k<=n∧i=.int .i64 k∧Hid (NoJupto (ls g n) k)∧Below w.heap.size w wr)(fun i _=>n-(intOf i).toNat)
 case atStart=>exact⟨0,by omega,rfl,fun p hp=>by omega,Below.refl _ _⟩
 case round=>
  obtain⟨k,hk,rfl,HJ,B1⟩:=hrel
  rename World=>W0
  by_cases hlt:k<n
  ·have hlt':(k:Int)<(n:Int):=by omega
   go_wp2_with fail
   go_loopw [5](fun i wr=>∃q:Nat,k+1<=q∧q<=n∧i=.int .i64 q∧Hid (∀j,k<j->j<q->NoJoin (g k).val (g j).val)∧Below w.heap.size w wr)(fun i _=>n-(intOf i).toNat)
   case atStart=>exact⟨k+1,by omega,by omega,by go_num,fun p hp hq=>by omega,B1⟩
   case round=>
    obtain⟨q,hq0,hq,rfl,HQ,B2⟩:=hrel
    rename World=>W1
    by_cases hlq:q<n
    ·have hlq':(q:Int)<(n:Int):=by omega
     have HWk:Hid (∀wr,Below w.heap.size w wr->Calls Tryz.prog 109 #[.pointer (some ⟨D,k*6,none⟩),.pointer (some ⟨D,q*6,none⟩)] wr fun e w'=>JoinPost (g k).val (g q).val e∧Below wr.heap.size wr w'):=fun wr h=>HW.out wr k q h hlt hlq
     have HFk:Hid (∀r,JoinR (g k).val (g q).val r->NR r∧FirstJ (ls g n) k q r):=fun r h=>HF.out k q r (by omega) hlq HJ.out HQ.out h
     have HQ2:Hid (NoJoin (g k).val (g q).val->∀j,k<j->j<q+1->NoJoin (g k).val (g j).val):=fun h j hj hjq=>by
      by_cases e:j=q
      ·subst e;exact h
      ·exact HQ.out j hj (by omega)
     have SK:Hid (∀wa wb,Below wa.heap.size wa wb->Below w.heap.size w wa->Below w.heap.size w wb):=fun wa wb hb s=>below_step hb s
     have HDk:Hid (∀wr(r:Rn),Below w.heap.size w wr->Calls Tryz.prog 108 #[.slice (some ⟨D,0,none⟩) n N,.int .i64 q,.int .i64 ((q:Int)+1)] (wr.setCells D (k*6) (encN r)) fun e w'=>e=.returned (.slice (some ⟨D,0,none⟩) (n-1) N)∧Row w' D N (n-1) (without (setAt g k r) q)∧Below B W w'∧w'.cell? ⟨L,0,none⟩=some (.slice (some ⟨D,0,none⟩) n N)∧w'.frozen? ⟨L,0,none⟩=false):=fun wr r h=>HD.out wr k q r h hlt hlq
     have HOk:Hid (∀wr,Below w.heap.size w wr->∀j,j<6->∃v,wr.cell? ⟨D,k*6+j,none⟩=some v∧wr.frozen? ⟨D,k*6+j,none⟩=false):=fun wr h=>HOp.out wr k h hlt
     have hS0:=SK.out W1 W1.drew ((Below.refl _ _).drew) B2
     have hWl:w.heap.size<=W1.heap.size:=B2.size
     have SKa:Hid (∀wb,Below W1.drew.heap.size W1.drew wb->Below w.heap.size w wb):=fun wb hb=>below_step hb hS0
     have hDW:¬W1.heap.size=D:=by omega
     have hB2d:Below w.heap.size w (W1.alloc (.cells #[.nilIface,.nilIface,.nilIface,.nilIface,.nilIface,.nilIface] 130)).drew:=(B2.alloc B2.size _).drew
     have SKb:Hid (∀wb,Below (W1.alloc (.cells #[.nilIface,.nilIface,.nilIface,.nilIface,.nilIface,.nilIface] 130)).drew.heap.size (W1.alloc (.cells #[.nilIface,.nilIface,.nilIface,.nilIface,.nilIface,.nilIface] 130)).drew wb->Below w.heap.size w wb∧W1.heap.size<wb.heap.size∧wb.cell? ⟨W1.heap.size,0,none⟩=some .nilIface∧wb.cell? ⟨W1.heap.size,1,none⟩=some .nilIface∧wb.cell? ⟨W1.heap.size,2,none⟩=some .nilIface∧wb.cell? ⟨W1.heap.size,3,none⟩=some .nilIface∧wb.cell? ⟨W1.heap.size,4,none⟩=some .nilIface∧wb.cell? ⟨W1.heap.size,5,none⟩=some .nilIface∧wb.frozen? ⟨W1.heap.size,0,none⟩=false∧wb.frozen? ⟨W1.heap.size,1,none⟩=false∧wb.frozen? ⟨W1.heap.size,2,none⟩=false∧wb.frozen? ⟨W1.heap.size,3,none⟩=false∧wb.frozen? ⟨W1.heap.size,4,none⟩=false∧wb.frozen? ⟨W1.heap.size,5,none⟩=false):=by
      intro wb hb
      have hz:W1.heap.size<(W1.alloc (.cells #[.nilIface,.nilIface,.nilIface,.nilIface,.nilIface,.nilIface] 130)).drew.heap.size:=by simp
      refine⟨below_step hb (B2.alloc B2.size _).drew,Nat.lt_of_lt_of_le hz hb.size,(hb.cell (p:=⟨W1.heap.size,0,none⟩) hz).trans (by simp),(hb.cell (p:=⟨W1.heap.size,1,none⟩) hz).trans (by simp),(hb.cell (p:=⟨W1.heap.size,2,none⟩) hz).trans (by simp),(hb.cell (p:=⟨W1.heap.size,3,none⟩) hz).trans (by simp),(hb.cell (p:=⟨W1.heap.size,4,none⟩) hz).trans (by simp),(hb.cell (p:=⟨W1.heap.size,5,none⟩) hz).trans (by simp),(hb.frozen (p:=⟨W1.heap.size,0,none⟩) hz).trans (by simp),(hb.frozen (p:=⟨W1.heap.size,1,none⟩) hz).trans (by simp),(hb.frozen (p:=⟨W1.heap.size,2,none⟩) hz).trans (by simp),(hb.frozen (p:=⟨W1.heap.size,3,none⟩) hz).trans (by simp),(hb.frozen (p:=⟨W1.heap.size,4,none⟩) hz).trans (by simp),(hb.frozen (p:=⟨W1.heap.size,5,none⟩) hz).trans (by simp)⟩
     clear HS HW HD HP0 HUp HF HQ HJ B1 B2 HOp
     by_cases hJ:∃r,JoinR (g k).val (g q).val r
     ·obtain⟨r,hr⟩:=hJ
      obtain⟨hnr,hF0⟩:=HFk.out r hr
      have hF:Hid (FirstJ (ls g n) k q r):=hF0
      have HWr:Hid (∀wr,Below w.heap.size w wr->Calls Tryz.prog 109 #[.pointer (some ⟨D,k*6,none⟩),.pointer (some ⟨D,q*6,none⟩)] wr fun e w'=>e=.returned (.tuple #[.agg #[.iface (tyK (r.getD 0 K.zero)) (plK (r.getD 0 K.zero)),.iface (tyK (r.getD 1 K.zero)) (plK (r.getD 1 K.zero)),.iface (tyK (r.getD 2 K.zero)) (plK (r.getD 2 K.zero)),.iface (tyK (r.getD 3 K.zero)) (plK (r.getD 3 K.zero)),.iface (tyK (r.getD 4 K.zero)) (plK (r.getD 4 K.zero)),.iface (tyK (r.getD 5 K.zero)) (plK (r.getD 5 K.zero))],.bool true])∧Below wr.heap.size wr w'):=fun wr h=>(HWk.out wr h).mono (by
       rintro e w'⟨⟨r',hr',rfl⟩|⟨hno,_⟩,hb⟩
       ·rw[hr'.uniq hr]
        exact⟨by simp only[encR,setV_form],hb⟩
       ·exact absurd hr (hno r))
      have HDr:Hid (∀wr,Below w.heap.size w wr->Calls Tryz.prog 108 #[.slice (some ⟨D,0,none⟩) n N,.int .i64 q,.int .i64 ((q:Int)+1)] ((((((wr.setCell ⟨D,k*6,none⟩ (.iface (tyK (r.getD 0 K.zero)) (plK (r.getD 0 K.zero)))).setCell ⟨D,k*6+1,none⟩ (.iface (tyK (r.getD 1 K.zero)) (plK (r.getD 1 K.zero)))).setCell ⟨D,k*6+2,none⟩ (.iface (tyK (r.getD 2 K.zero)) (plK (r.getD 2 K.zero)))).setCell ⟨D,k*6+3,none⟩ (.iface (tyK (r.getD 3 K.zero)) (plK (r.getD 3 K.zero)))).setCell ⟨D,k*6+4,none⟩ (.iface (tyK (r.getD 4 K.zero)) (plK (r.getD 4 K.zero)))).setCell ⟨D,k*6+5,none⟩ (.iface (tyK (r.getD 5 K.zero)) (plK (r.getD 5 K.zero)))) fun e w'=>e=.returned (.slice (some ⟨D,0,none⟩) (n-1) N)∧Row w' D N (n-1) (without (setAt g k ⟨r,hnr⟩) q)∧Below B W w'∧w'.cell? ⟨L,0,none⟩=some (.slice (some ⟨D,0,none⟩) n N)∧w'.frozen? ⟨L,0,none⟩=false):=fun wr h=>by
       have:=HDk.out wr ⟨r,hnr⟩ h
       rw[encN_form]at this
       exact this
      clear HWk HFk HQ2 hF0 HDk
      generalize tyK (r.getD 0 K.zero)=t0 at HWr HDr
      generalize plK (r.getD 0 K.zero)=p0 at HWr HDr
      generalize tyK (r.getD 1 K.zero)=t1 at HWr HDr
      generalize plK (r.getD 1 K.zero)=p1 at HWr HDr
      generalize tyK (r.getD 2 K.zero)=t2 at HWr HDr
      generalize plK (r.getD 2 K.zero)=p2 at HWr HDr
      generalize tyK (r.getD 3 K.zero)=t3 at HWr HDr
      generalize plK (r.getD 3 K.zero)=p3 at HWr HDr
      generalize tyK (r.getD 4 K.zero)=t4 at HWr HDr
      generalize plK (r.getD 4 K.zero)=p4 at HWr HDr
      generalize tyK (r.getD 5 K.zero)=t5 at HWr HDr
      generalize plK (r.getD 5 K.zero)=p5 at HWr HDr
      go_wp2_with fail
      go_region_held3(fun w'=>Below w.heap.size w w')
       (first|(with_reducible assumption)|(with_reducible exact below_set6 (by assumption) hWl _ _ _ _ _ _)|(with_reducible exact Below.alloc (by assumption) (Below.size (by assumption)) _))
       (first|(go_at_call 109;refine(HWr.out _ (by with_reducible assumption)).mono ?_;rintro _ w9⟨rfl,hb9⟩;first|(have hS9:Below w.heap.size w w9:=(by with_reducible exact SKa.out _ hb9))|(obtain⟨hS9,hz9,b0,b1,b2,b3,b4,b5,f0,f1,f2,f3,f4,f5⟩:=(by with_reducible exact SKb.out _ hb9:_∧_))))
      ·have hBV:Below w.heap.size w (w9.alloc (.cells #[.iface t0 p0,.iface t1 p1,.iface t2 p2,.iface t3 p3,.iface t4 p4,.iface t5 p5] 130)):=hS9.alloc hS9.size _
       have bb:(w9.alloc (.cells #[.iface t0 p0,.iface t1 p1,.iface t2 p2,.iface t3 p3,.iface t4 p4,.iface t5 p5] 130)).cell? ⟨w9.heap.size,0,none⟩=some (.iface t0 p0)∧(w9.alloc (.cells #[.iface t0 p0,.iface t1 p1,.iface t2 p2,.iface t3 p3,.iface t4 p4,.iface t5 p5] 130)).cell? ⟨w9.heap.size,1,none⟩=some (.iface t1 p1)∧(w9.alloc (.cells #[.iface t0 p0,.iface t1 p1,.iface t2 p2,.iface t3 p3,.iface t4 p4,.iface t5 p5] 130)).cell? ⟨w9.heap.size,2,none⟩=some (.iface t2 p2)∧(w9.alloc (.cells #[.iface t0 p0,.iface t1 p1,.iface t2 p2,.iface t3 p3,.iface t4 p4,.iface t5 p5] 130)).cell? ⟨w9.heap.size,3,none⟩=some (.iface t3 p3)∧(w9.alloc (.cells #[.iface t0 p0,.iface t1 p1,.iface t2 p2,.iface t3 p3,.iface t4 p4,.iface t5 p5] 130)).cell? ⟨w9.heap.size,4,none⟩=some (.iface t4 p4)∧(w9.alloc (.cells #[.iface t0 p0,.iface t1 p1,.iface t2 p2,.iface t3 p3,.iface t4 p4,.iface t5 p5] 130)).cell? ⟨w9.heap.size,5,none⟩=some (.iface t5 p5):=by refine⟨?_,?_,?_,?_,?_,?_⟩<;>simp
       have hDn:¬w9.heap.size=D:=by have:=hS9.size;omega
       clear hb9
       skip
       obtain⟨V9,hV9⟩:∃V9,V9=(w9.alloc (.cells #[.iface t0 p0,.iface t1 p1,.iface t2 p2,.iface t3 p3,.iface t4 p4,.iface t5 p5] 130)):=⟨_,rfl⟩
       rw[<-hV9]at hBV bb⊢
       clear hV9
       obtain⟨b0,b1,b2,b3,b4,b5⟩:=bb
       obtain⟨o0,O0,F0⟩:=HOk.out V9 hBV 0 (by omega)
       obtain⟨o1,O1,F1⟩:=HOk.out V9 hBV 1 (by omega)
       obtain⟨o2,O2,F2⟩:=HOk.out V9 hBV 2 (by omega)
       obtain⟨o3,O3,F3⟩:=HOk.out V9 hBV 3 (by omega)
       obtain⟨o4,O4,F4⟩:=HOk.out V9 hBV 4 (by omega)
       obtain⟨o5,O5,F5⟩:=HOk.out V9 hBV 5 (by omega)
       rw[Nat.add_zero]at O0 F0
       clear SK SKa SKb HOk hS0 hB2d
       go_wp2_with fail
       refine(HDr.out _ hBV).mono ?_
       rintro _ w10⟨rfl,hr10,hB10,hc10,hf10⟩
       have HP:Hid (PairPost B W L D N n g (.returned (.bool true)) (w10.setCell ⟨L,0,none⟩ (.slice (some ⟨D,0,none⟩) (n-1) N))):=⟨hB10.setCell (p:=⟨L,0,none⟩) hL _,.inr ⟨k,q,⟨r,hnr⟩,hF.out,rfl,St.put hc10 hf10 hne hr10⟩⟩
       clear HDr hr10 hB10 hBV b0 b1 b2 b3 b4 b5 O0 O1 O2 O3 O4 O5 F0 F1 F2 F3 F4 F5 HWr
       go_wp2
       go_ret
       exact HP.out
      ·have hBV:Below w.heap.size w ((((((w9.setCell ⟨W1.heap.size,0,none⟩ (.iface t0 p0)).setCell ⟨W1.heap.size,1,none⟩ (.iface t1 p1)).setCell ⟨W1.heap.size,2,none⟩ (.iface t2 p2)).setCell ⟨W1.heap.size,3,none⟩ (.iface t3 p3)).setCell ⟨W1.heap.size,4,none⟩ (.iface t4 p4)).setCell ⟨W1.heap.size,5,none⟩ (.iface t5 p5)):=below_set6 hS9 hWl _ _ _ _ _ _
       have bb:((((((w9.setCell ⟨W1.heap.size,0,none⟩ (.iface t0 p0)).setCell ⟨W1.heap.size,1,none⟩ (.iface t1 p1)).setCell ⟨W1.heap.size,2,none⟩ (.iface t2 p2)).setCell ⟨W1.heap.size,3,none⟩ (.iface t3 p3)).setCell ⟨W1.heap.size,4,none⟩ (.iface t4 p4)).setCell ⟨W1.heap.size,5,none⟩ (.iface t5 p5)).cell? ⟨W1.heap.size,0,none⟩=some (.iface t0 p0)∧((((((w9.setCell ⟨W1.heap.size,0,none⟩ (.iface t0 p0)).setCell ⟨W1.heap.size,1,none⟩ (.iface t1 p1)).setCell ⟨W1.heap.size,2,none⟩ (.iface t2 p2)).setCell ⟨W1.heap.size,3,none⟩ (.iface t3 p3)).setCell ⟨W1.heap.size,4,none⟩ (.iface t4 p4)).setCell ⟨W1.heap.size,5,none⟩ (.iface t5 p5)).cell? ⟨W1.heap.size,1,none⟩=some (.iface t1 p1)∧((((((w9.setCell ⟨W1.heap.size,0,none⟩ (.iface t0 p0)).setCell ⟨W1.heap.size,1,none⟩ (.iface t1 p1)).setCell ⟨W1.heap.size,2,none⟩ (.iface t2 p2)).setCell ⟨W1.heap.size,3,none⟩ (.iface t3 p3)).setCell ⟨W1.heap.size,4,none⟩ (.iface t4 p4)).setCell ⟨W1.heap.size,5,none⟩ (.iface t5 p5)).cell? ⟨W1.heap.size,2,none⟩=some (.iface t2 p2)∧((((((w9.setCell ⟨W1.heap.size,0,none⟩ (.iface t0 p0)).setCell ⟨W1.heap.size,1,none⟩ (.iface t1 p1)).setCell ⟨W1.heap.size,2,none⟩ (.iface t2 p2)).setCell ⟨W1.heap.size,3,none⟩ (.iface t3 p3)).setCell ⟨W1.heap.size,4,none⟩ (.iface t4 p4)).setCell ⟨W1.heap.size,5,none⟩ (.iface t5 p5)).cell? ⟨W1.heap.size,3,none⟩=some (.iface t3 p3)∧((((((w9.setCell ⟨W1.heap.size,0,none⟩ (.iface t0 p0)).setCell ⟨W1.heap.size,1,none⟩ (.iface t1 p1)).setCell ⟨W1.heap.size,2,none⟩ (.iface t2 p2)).setCell ⟨W1.heap.size,3,none⟩ (.iface t3 p3)).setCell ⟨W1.heap.size,4,none⟩ (.iface t4 p4)).setCell ⟨W1.heap.size,5,none⟩ (.iface t5 p5)).cell? ⟨W1.heap.size,4,none⟩=some (.iface t4 p4)∧((((((w9.setCell ⟨W1.heap.size,0,none⟩ (.iface t0 p0)).setCell ⟨W1.heap.size,1,none⟩ (.iface t1 p1)).setCell ⟨W1.heap.size,2,none⟩ (.iface t2 p2)).setCell ⟨W1.heap.size,3,none⟩ (.iface t3 p3)).setCell ⟨W1.heap.size,4,none⟩ (.iface t4 p4)).setCell ⟨W1.heap.size,5,none⟩ (.iface t5 p5)).cell? ⟨W1.heap.size,5,none⟩=some (.iface t5 p5):=by refine⟨?_,?_,?_,?_,?_,?_⟩<;>simp[go_sem,b0,b1,b2,b3,b4,b5]
       clear b0 b1 b2 b3 b4 b5 f0 f1 f2 f3 f4 f5
       clear hb9
       obtain⟨V9,hV9⟩:∃V9,V9=((((((w9.setCell ⟨W1.heap.size,0,none⟩ (.iface t0 p0)).setCell ⟨W1.heap.size,1,none⟩ (.iface t1 p1)).setCell ⟨W1.heap.size,2,none⟩ (.iface t2 p2)).setCell ⟨W1.heap.size,3,none⟩ (.iface t3 p3)).setCell ⟨W1.heap.size,4,none⟩ (.iface t4 p4)).setCell ⟨W1.heap.size,5,none⟩ (.iface t5 p5)):=⟨_,rfl⟩
       rw[<-hV9]at hBV bb⊢
       clear hV9
       obtain⟨b0,b1,b2,b3,b4,b5⟩:=bb
       obtain⟨o0,O0,F0⟩:=HOk.out V9 hBV 0 (by omega)
       obtain⟨o1,O1,F1⟩:=HOk.out V9 hBV 1 (by omega)
       obtain⟨o2,O2,F2⟩:=HOk.out V9 hBV 2 (by omega)
       obtain⟨o3,O3,F3⟩:=HOk.out V9 hBV 3 (by omega)
       obtain⟨o4,O4,F4⟩:=HOk.out V9 hBV 4 (by omega)
       obtain⟨o5,O5,F5⟩:=HOk.out V9 hBV 5 (by omega)
       rw[Nat.add_zero]at O0 F0
       clear SK SKa SKb HOk hS0 hB2d
       go_wp2_with fail
       refine(HDr.out _ hBV).mono ?_
       rintro _ w10⟨rfl,hr10,hB10,hc10,hf10⟩
       have HP:Hid (PairPost B W L D N n g (.returned (.bool true)) (w10.setCell ⟨L,0,none⟩ (.slice (some ⟨D,0,none⟩) (n-1) N))):=⟨hB10.setCell (p:=⟨L,0,none⟩) hL _,.inr ⟨k,q,⟨r,hnr⟩,hF.out,rfl,St.put hc10 hf10 hne hr10⟩⟩
       clear HDr hr10 hB10 hBV b0 b1 b2 b3 b4 b5 O0 O1 O2 O3 O4 O5 F0 F1 F2 F3 F4 F5 HWr
       go_wp2
       go_ret
       exact HP.out
     ·have hNo:NoJoin (g k).val (g q).val:=fun r h=>hJ ⟨r,h⟩
      have HQ3:Hid (∀j,k<j->j<q+1->NoJoin (g k).val (g j).val):=HQ2.out hNo
      have HWr:Hid (∀wr,Below w.heap.size w wr->Calls Tryz.prog 109 #[.pointer (some ⟨D,k*6,none⟩),.pointer (some ⟨D,q*6,none⟩)] wr fun e w'=>e=.returned (.tuple #[.agg #[.nilIface,.nilIface,.nilIface,.nilIface,.nilIface,.nilIface],.bool false])∧Below wr.heap.size wr w'):=fun wr h=>(HWk.out wr h).mono (by
       rintro e w'⟨⟨r',hr',rfl⟩|⟨hno,rfl⟩,hb⟩
       ·exact absurd hr' (hNo r')
       ·exact⟨rfl,hb⟩)
      clear HWk HFk HQ2 HDk hNo hJ HOk
      go_wp2_with fail
      go_region_held3(fun w'=>Below w.heap.size w w')
       (first|(with_reducible assumption)|(with_reducible exact below_set6 (by assumption) hWl _ _ _ _ _ _)|(with_reducible exact Below.alloc (by assumption) (Below.size (by assumption)) _))
       (first|(go_at_call 109;refine(HWr.out _ (by with_reducible assumption)).mono ?_;rintro _ w9⟨rfl,hb9⟩;first|(have hS9:Below w.heap.size w w9:=(by with_reducible exact SKa.out _ hb9))|(obtain⟨hS9,hz9,b0,b1,b2,b3,b4,b5,f0,f1,f2,f3,f4,f5⟩:=(by with_reducible exact SKb.out _ hb9:_∧_))))
      ·have hBV:=hS9.alloc hS9.size (.cells #[.nilIface,.nilIface,.nilIface,.nilIface,.nilIface,.nilIface] 130)
       clear SK SKa SKb hS0 hB2d HWr hb9
       go_wp2
       go_roundw
       case rel=>exact⟨q+1,by omega,by omega,by go_num,HQ3,hBV⟩
       case measure=>simp[intOf];omega
      ·have hBV:=below_set6 hS9 hWl .nilIface .nilIface .nilIface .nilIface .nilIface .nilIface
       clear SK SKa SKb hS0 hB2d HWr hb9
       go_wp2
       go_roundw
       case rel=>exact⟨q+1,by omega,by omega,by go_num,HQ3,hBV⟩
       case measure=>simp[intOf];omega
    ·have eq:q=n:=by omega
     have HU:Hid (NoJupto (ls g n) (k+1)):=HUp.out k hlt HJ.out (fun j hj hjn=>HQ.out j hj (by omega))
     have hlq':¬(q:Int)<(n:Int):=by omega
     clear HS HW HD HP0 HUp HF HQ HJ HOp
     go_wp2
     go_roundw
     case rel=>exact⟨k+1,by omega,by go_num,HU,B2⟩
     case measure=>simp[intOf];omega
  ·have hkn:k=n:=by omega
   subst hkn
   obtain⟨s,hB⟩:=HS.out W0 B1
   have HP:Hid (PairPost B W L D N k g (.returned (.bool false)) W0):=⟨hB,.inl ⟨HP0.out HJ.out,rfl,s⟩⟩
   clear HS HW HD HP0 HUp HF HJ s hB HOp
   go_wp2
   go_ret
   exact HP.out
end Go.Proofs.YtddemlfepjkgoaaGreat
