import Derived.Test.YtdihdapmphkhpaaGreatQ22
set_option linter.all false
set_option maxRecDepth 200000
set_option maxHeartbeats 16000000
namespace Go.Proofs.YtdihdapmphkhpaaGreat
open Go.RowKit
open srtR
variable{l:List K}{n:Nat}{v:Value}{w w1:World}
def setAt(g:Nat->Rn)(i:Nat)(r:Rn)(j:Nat):Rn:=if j=i then r else g j
theorem ls_set(g:Nat->Rn){i:Nat}(r:Rn)(h:i<n):ls (setAt g i r) n=(ls g n).set i r.val:=by
 apply dz
 ·rw[iQ,aK,iQ]
 intro j h1 h2;rw[iQ]at h1;rw[List.getElem_set];simp only[ls,ft,List.getElem_map,List.getElem_range,setAt];by_cases e:i=j
 ·subst e;simp
 rw[if_neg (fun h=>e h.symm),if_neg e]
theorem Iu(g:Nat->Rn){i j:Nat}(r:Rn)(hi:i<n)(hj:j<n):ls (gW (setAt g i r) j) (n-1)=((ls g n).set i r.val).eraseIdx j:=by
 rw[uG _ hj,ls_set g r hi]
def mY(B:Nat)(W:World)(L D N n:Nat)(g:Nat->Rn)(e:Ending)(w':World):Prop:=
 Below B W w'∧((NoJ (ls g n)∧e=.returned (.bool false)∧St w' L D N n g)∨(∃i j r,mX (ls g n) i j r.val∧e=.returned (.bool true)∧St w' L D N (n-1) (gW (setAt g i r) j)))
theorem E9(B L D N n:Nat)(g:Nat->Rn)(W w:World)(hBW:B<=W.heap.size)(hb:Below B W w)(hD:B<=D)(hL:B<=L)(hs:St w L D N n g)(hn:n<=16777216):
 Calls Tryz.prog 67 #[.pointer (some ⟨L,0,none⟩)] w fun e w'=>mY B W L D N n g e w':=by
 have HS:Hid (∀wr,Below w.heap.size w wr->St wr L D N n g∧Below B W wr):=fun wr h=>⟨hs.ey h,iy hBW h hb⟩
 have HW:Hid (∀wr p q,Below w.heap.size w wr->p<n->q<n->Calls Tryz.prog 108 #[.pointer (some ⟨D,p*6,none⟩),.pointer (some ⟨D,q*6,none⟩)] wr fun e w'=>iz (g p).val (g q).val e∧Below wr.heap.size wr w'):=
  fun wr p q h hp hq=>Dq _ _ _ _ _ _ wr (g p).property (g q).property (Row.ruAt (hs.ey h).row hp) (Row.ruAt (hs.ey h).row hq)
 have HUp:Hid (∀k,k<n->jk (ls g n) k->(∀q,k<q->q<n->gj (g k).val (g q).val)->jk (ls g n) (k+1)):=by
  intro k hk h h1 p hp q hpq hq
  rw[iQ]at hq
  by_cases e:p=k
  ·subst e
   rw[qB g hk,qB g hq];exact h1 q hpq hq
  ·exact h p (by omega) q hpq (by rw[iQ];exact hq)
 have HP0:Hid (jk (ls g n) n->NoJ (ls g n)):=fun h=>by unfold NoJ;rw[iQ];exact h
 have HF:Hid (∀k q r,k<q->q<n->jk (ls g n) k->(∀j,k<j->j<q->gj (g k).val (g j).val)->jD (g k).val (g q).val r->NR r∧mX (ls g n) k q r):=by
  intro k q r hkq hq h h1 h2
  refine⟨h2.normal (g k).property (g q).property,hkq,by rw[iQ];exact hq,h,fun j hj hjq=> ?_,?_⟩
  ·rw[qB g (by omega),qB g (by omega)];exact h1 j hj hjq
  ·rw[qB g (by omega),qB g hq];exact h2
 have HD:Hid (∀wr k q(r:Rn),Below w.heap.size w wr->k<n->q<n->Calls Tryz.prog 107 #[.slice (some ⟨D,0,none⟩) n N,.int .i64 q,.int .i64 ((q:Int)+1)] (wr.setCells D (k*6) (ju r)) fun e w'=>e=.returned (.slice (some ⟨D,0,none⟩) (n-1) N)∧Row w' D N (n-1) (gW (setAt g k r) q)∧Below B W w'∧w'.cell? ⟨L,0,none⟩=some (.slice (some ⟨D,0,none⟩) n N)∧w'.frozen? ⟨L,0,none⟩=false):=by
  intro wr k q r h hk hq
  obtain⟨m,rfl⟩:∃m,n=m+1:=⟨n-1,by omega⟩
  have s:=hs.ey h
  have hl:=fA s.c
  have hr:Row (wr.setCells D (k*6) (ju r)) D N (m+1) (setAt g k r):=ic.set s.row k r (iN r) (by decide)
  have o1:jW D wr (wr.setCells D (k*6) (ju r)):=jW.setCells _ _ _ (jW.refl D wr)
  refine(uN D N m N q (setAt g k r) _ hr hq s.row.1 hn (ae _)).mono ?_
  rintro e w'⟨rfl,hr,ho⟩
  have o2:=o1.trans ho
  exact⟨rfl,hr,o2.below hBW (iy hBW h hb) hD,(o2.cell (p:=⟨L,0,none⟩) s.ne hl).trans s.c,(o2.frozen (p:=⟨L,0,none⟩) s.ne hl).trans s.f⟩
 have HOp:Hid (∀wr k,Below w.heap.size w wr->k<n->∀j,j<6->∃v,wr.cell? ⟨D,k*6+j,none⟩=some v∧wr.frozen? ⟨D,k*6+j,none⟩=false):=fun wr k h hk j hj=>ic.open (hs.ey h).row _ (by have:=(hs.ey h).row.1;omega)
 have hc:=hs.c
 have hne:=hs.ne
 have hDl:=ic.lt hs.row
 clear hs hb
 go_enter Tryz.func67,Tryz.ntmps67
 go_wp2_with fail
 clear hc
 go_loopw [13](fun i wr=>∃k:Nat,k<=n∧i=.int .i64 k∧Hid (jk (ls g n) k)∧Below w.heap.size w wr)(fun i _=>n-(intOf i).toNat)
 case atStart=>exact⟨0,by omega,rfl,fun p hp=>by omega,af _ _⟩
 case round=>
  obtain⟨k,hk,rfl,HJ,B1⟩:=hrel
  rename World=>W0
  by_cases hlt:k<n
  ·have hlt':(k:Int)<(n:Int):=by omega
   go_wp2_with fail
   go_loopw [5](fun i wr=>∃q:Nat,k+1<=q∧q<=n∧i=.int .i64 q∧Hid (∀j,k<j->j<q->gj (g k).val (g j).val)∧Below w.heap.size w wr)(fun i _=>n-(intOf i).toNat)
   case atStart=>exact⟨k+1,by omega,by omega,by go_num,fun p hp hq=>by omega,B1⟩
   case round=>
    obtain⟨q,hq0,hq,rfl,HQ,B2⟩:=hrel
    rename World=>W1
    by_cases hlq:q<n
    ·have hlq':(q:Int)<(n:Int):=by omega
     have HWk:Hid (∀wr,Below w.heap.size w wr->Calls Tryz.prog 108 #[.pointer (some ⟨D,k*6,none⟩),.pointer (some ⟨D,q*6,none⟩)] wr fun e w'=>iz (g k).val (g q).val e∧Below wr.heap.size wr w'):=fun wr h=>HW.out wr k q h hlt hlq
     have HFk:Hid (∀r,jD (g k).val (g q).val r->NR r∧mX (ls g n) k q r):=fun r h=>HF.out k q r (by omega) hlq HJ.out HQ.out h
     have HQ2:Hid (gj (g k).val (g q).val->∀j,k<j->j<q+1->gj (g k).val (g j).val):=fun h j hj hjq=>by
      by_cases e:j=q
      ·subst e;exact h
      ·exact HQ.out j hj (by omega)
     have SK:Hid (∀wa wb,Below wa.heap.size wa wb->Below w.heap.size w wa->Below w.heap.size w wb):=fun wa wb hb s=>eo hb s
     have HDk:Hid (∀wr(r:Rn),Below w.heap.size w wr->Calls Tryz.prog 107 #[.slice (some ⟨D,0,none⟩) n N,.int .i64 q,.int .i64 ((q:Int)+1)] (wr.setCells D (k*6) (ju r)) fun e w'=>e=.returned (.slice (some ⟨D,0,none⟩) (n-1) N)∧Row w' D N (n-1) (gW (setAt g k r) q)∧Below B W w'∧w'.cell? ⟨L,0,none⟩=some (.slice (some ⟨D,0,none⟩) n N)∧w'.frozen? ⟨L,0,none⟩=false):=fun wr r h=>HD.out wr k q r h hlt hlq
     have HOk:Hid (∀wr,Below w.heap.size w wr->∀j,j<6->∃v,wr.cell? ⟨D,k*6+j,none⟩=some v∧wr.frozen? ⟨D,k*6+j,none⟩=false):=fun wr h=>HOp.out wr k h hlt
     have hS0:=SK.out W1 W1.drew ((af _ _).drew) B2
     have hWl:w.heap.size<=W1.heap.size:=B2.size
     have SKa:Hid (∀wb,Below W1.drew.heap.size W1.drew wb->Below w.heap.size w wb):=fun wb hb=>eo hb hS0
     have hDW:¬W1.heap.size=D:=by omega
     have hB2d:Below w.heap.size w (W1.alloc (.cells #[.nilIface,.nilIface,.nilIface,.nilIface,.nilIface,.nilIface] 117)).drew:=(B2.alloc B2.size _).drew
     have SKb:Hid (∀wb,Below (W1.alloc (.cells #[.nilIface,.nilIface,.nilIface,.nilIface,.nilIface,.nilIface] 117)).drew.heap.size (W1.alloc (.cells #[.nilIface,.nilIface,.nilIface,.nilIface,.nilIface,.nilIface] 117)).drew wb->Below w.heap.size w wb∧W1.heap.size<wb.heap.size∧wb.cell? ⟨W1.heap.size,0,none⟩=some .nilIface∧wb.cell? ⟨W1.heap.size,1,none⟩=some .nilIface∧wb.cell? ⟨W1.heap.size,2,none⟩=some .nilIface∧wb.cell? ⟨W1.heap.size,3,none⟩=some .nilIface∧wb.cell? ⟨W1.heap.size,4,none⟩=some .nilIface∧wb.cell? ⟨W1.heap.size,5,none⟩=some .nilIface∧wb.frozen? ⟨W1.heap.size,0,none⟩=false∧wb.frozen? ⟨W1.heap.size,1,none⟩=false∧wb.frozen? ⟨W1.heap.size,2,none⟩=false∧wb.frozen? ⟨W1.heap.size,3,none⟩=false∧wb.frozen? ⟨W1.heap.size,4,none⟩=false∧wb.frozen? ⟨W1.heap.size,5,none⟩=false):=by
      intro wb hb
      have hz:W1.heap.size<(W1.alloc (.cells #[.nilIface,.nilIface,.nilIface,.nilIface,.nilIface,.nilIface] 117)).drew.heap.size:=by simp
      refine⟨eo hb (B2.alloc B2.size _).drew,an hz hb.size,(hb.cell (p:=⟨W1.heap.size,0,none⟩) hz).trans (by simp),(hb.cell (p:=⟨W1.heap.size,1,none⟩) hz).trans (by simp),(hb.cell (p:=⟨W1.heap.size,2,none⟩) hz).trans (by simp),(hb.cell (p:=⟨W1.heap.size,3,none⟩) hz).trans (by simp),(hb.cell (p:=⟨W1.heap.size,4,none⟩) hz).trans (by simp),(hb.cell (p:=⟨W1.heap.size,5,none⟩) hz).trans (by simp),(hb.frozen (p:=⟨W1.heap.size,0,none⟩) hz).trans (by simp),(hb.frozen (p:=⟨W1.heap.size,1,none⟩) hz).trans (by simp),(hb.frozen (p:=⟨W1.heap.size,2,none⟩) hz).trans (by simp),(hb.frozen (p:=⟨W1.heap.size,3,none⟩) hz).trans (by simp),(hb.frozen (p:=⟨W1.heap.size,4,none⟩) hz).trans (by simp),(hb.frozen (p:=⟨W1.heap.size,5,none⟩) hz).trans (by simp)⟩
     clear HS HW HD HP0 HUp HF HQ HJ B1 B2 HOp
     by_cases hJ:∃r,jD (g k).val (g q).val r
     ·obtain⟨r,hr⟩:=hJ
      obtain⟨hnr,hF0⟩:=HFk.out r hr
      have hF:Hid (mX (ls g n) k q r):=hF0
      have HWr:Hid (∀wr,Below w.heap.size w wr->Calls Tryz.prog 108 #[.pointer (some ⟨D,k*6,none⟩),.pointer (some ⟨D,q*6,none⟩)] wr fun e w'=>e=.returned (.tuple #[.agg #[.iface (tyK (r.getD 0 K.zero)) (plK (r.getD 0 K.zero)),.iface (tyK (r.getD 1 K.zero)) (plK (r.getD 1 K.zero)),.iface (tyK (r.getD 2 K.zero)) (plK (r.getD 2 K.zero)),.iface (tyK (r.getD 3 K.zero)) (plK (r.getD 3 K.zero)),.iface (tyK (r.getD 4 K.zero)) (plK (r.getD 4 K.zero)),.iface (tyK (r.getD 5 K.zero)) (plK (r.getD 5 K.zero))],.bool true])∧Below wr.heap.size wr w'):=fun wr h=>(HWk.out wr h).mono (by
       rintro e w'⟨⟨r',hr',rfl⟩|⟨hno,_⟩,hb⟩
       ·rw[hr'.uniq hr]
        exact⟨by simp only[kY,iv],hb⟩
       ·exact absurd hr (hno r))
      have HDr:Hid (∀wr,Below w.heap.size w wr->Calls Tryz.prog 107 #[.slice (some ⟨D,0,none⟩) n N,.int .i64 q,.int .i64 ((q:Int)+1)] ((((((wr.setCell ⟨D,k*6,none⟩ (.iface (tyK (r.getD 0 K.zero)) (plK (r.getD 0 K.zero)))).setCell ⟨D,k*6+1,none⟩ (.iface (tyK (r.getD 1 K.zero)) (plK (r.getD 1 K.zero)))).setCell ⟨D,k*6+2,none⟩ (.iface (tyK (r.getD 2 K.zero)) (plK (r.getD 2 K.zero)))).setCell ⟨D,k*6+3,none⟩ (.iface (tyK (r.getD 3 K.zero)) (plK (r.getD 3 K.zero)))).setCell ⟨D,k*6+4,none⟩ (.iface (tyK (r.getD 4 K.zero)) (plK (r.getD 4 K.zero)))).setCell ⟨D,k*6+5,none⟩ (.iface (tyK (r.getD 5 K.zero)) (plK (r.getD 5 K.zero)))) fun e w'=>e=.returned (.slice (some ⟨D,0,none⟩) (n-1) N)∧Row w' D N (n-1) (gW (setAt g k ⟨r,hnr⟩) q)∧Below B W w'∧w'.cell? ⟨L,0,none⟩=some (.slice (some ⟨D,0,none⟩) n N)∧w'.frozen? ⟨L,0,none⟩=false):=fun wr h=>by
       have:=HDk.out wr ⟨r,hnr⟩ h
       rw[qi]at this
       exact this
      clear HWk HFk HQ2 hF0 HDk
      generalize tyK (r.getD 0 K.zero)=t0 at HWr HDr
      generalize plK (r.getD 0 K.zero)=p0 at HWr HDr
      generalize tyK (r.getD 1 K.zero)=t1 at HWr HDr
      generalize plK (r.getD 1 K.zero)=p1 at HWr HDr
      generalize tyK (r.getD 2 K.zero)=t2 at HWr HDr
      generalize plK (r.getD 2 K.zero)=p2 at HWr HDr
      generalize tyK (r.getD 3 K.zero)=t3 at HWr HDr
      generalize plK (r.getD 3 K.zero)=p3 at HWr HDr
      generalize tyK (r.getD 4 K.zero)=t4 at HWr HDr
      generalize plK (r.getD 4 K.zero)=p4 at HWr HDr
      generalize tyK (r.getD 5 K.zero)=t5 at HWr HDr
      generalize plK (r.getD 5 K.zero)=p5 at HWr HDr
      go_wp2_with fail
      go_region_held3(fun w'=>Below w.heap.size w w')
       (first|(with_reducible assumption)|(with_reducible exact gI (by assumption) hWl _ _ _ _ _ _)|(with_reducible exact Below.alloc (by assumption) (Below.size (by assumption)) _))
       (first|(go_at_call 108;refine(HWr.out _ (by with_reducible assumption)).mono ?_;rintro _ w9⟨rfl,hb9⟩;first|(have hS9:Below w.heap.size w w9:=(by with_reducible exact SKa.out _ hb9))|(obtain⟨hS9,hz9,b0,b1,b2,b3,b4,b5,f0,f1,f2,f3,f4,f5⟩:=(by with_reducible exact SKb.out _ hb9:_∧_))))
      ·have hBV:Below w.heap.size w (w9.alloc (.cells #[.iface t0 p0,.iface t1 p1,.iface t2 p2,.iface t3 p3,.iface t4 p4,.iface t5 p5] 117)):=hS9.alloc hS9.size _
       have bb:(w9.alloc (.cells #[.iface t0 p0,.iface t1 p1,.iface t2 p2,.iface t3 p3,.iface t4 p4,.iface t5 p5] 117)).cell? ⟨w9.heap.size,0,none⟩=some (.iface t0 p0)∧(w9.alloc (.cells #[.iface t0 p0,.iface t1 p1,.iface t2 p2,.iface t3 p3,.iface t4 p4,.iface t5 p5] 117)).cell? ⟨w9.heap.size,1,none⟩=some (.iface t1 p1)∧(w9.alloc (.cells #[.iface t0 p0,.iface t1 p1,.iface t2 p2,.iface t3 p3,.iface t4 p4,.iface t5 p5] 117)).cell? ⟨w9.heap.size,2,none⟩=some (.iface t2 p2)∧(w9.alloc (.cells #[.iface t0 p0,.iface t1 p1,.iface t2 p2,.iface t3 p3,.iface t4 p4,.iface t5 p5] 117)).cell? ⟨w9.heap.size,3,none⟩=some (.iface t3 p3)∧(w9.alloc (.cells #[.iface t0 p0,.iface t1 p1,.iface t2 p2,.iface t3 p3,.iface t4 p4,.iface t5 p5] 117)).cell? ⟨w9.heap.size,4,none⟩=some (.iface t4 p4)∧(w9.alloc (.cells #[.iface t0 p0,.iface t1 p1,.iface t2 p2,.iface t3 p3,.iface t4 p4,.iface t5 p5] 117)).cell? ⟨w9.heap.size,5,none⟩=some (.iface t5 p5):=by refine⟨?_,?_,?_,?_,?_,?_⟩<;>simp
       have hDn:¬w9.heap.size=D:=by have:=hS9.size;omega
       clear hb9
       skip
       obtain⟨V9,hV9⟩:∃V9,V9=(w9.alloc (.cells #[.iface t0 p0,.iface t1 p1,.iface t2 p2,.iface t3 p3,.iface t4 p4,.iface t5 p5] 117)):=⟨_,rfl⟩
       rw[<-hV9]at hBV bb⊢
       clear hV9
       obtain⟨b0,b1,b2,b3,b4,b5⟩:=bb
       obtain⟨o0,O0,F0⟩:=HOk.out V9 hBV 0 (by omega)
       obtain⟨o1,O1,F1⟩:=HOk.out V9 hBV 1 (by omega)
       obtain⟨o2,O2,F2⟩:=HOk.out V9 hBV 2 (by omega)
       obtain⟨o3,O3,F3⟩:=HOk.out V9 hBV 3 (by omega)
       obtain⟨o4,O4,F4⟩:=HOk.out V9 hBV 4 (by omega)
       obtain⟨o5,O5,F5⟩:=HOk.out V9 hBV 5 (by omega)
       rw[cA]at O0 F0
       clear SK SKa SKb HOk hS0 hB2d
       go_wp2_with fail
       refine(HDr.out _ hBV).mono ?_
       rintro _ w10⟨rfl,hr10,hB10,hc10,hf10⟩
       have HP:Hid (mY B W L D N n g (.returned (.bool true)) (w10.setCell ⟨L,0,none⟩ (.slice (some ⟨D,0,none⟩) (n-1) N))):=⟨hB10.setCell (p:=⟨L,0,none⟩) hL _,.inr ⟨k,q,⟨r,hnr⟩,hF.out,rfl,St.put hc10 hf10 hne hr10⟩⟩
       clear HDr hr10 hB10 hBV b0 b1 b2 b3 b4 b5 O0 O1 O2 O3 O4 O5 F0 F1 F2 F3 F4 F5 HWr
       go_wp2
       go_ret
       exact HP.out
      ·have hBV:Below w.heap.size w ((((((w9.setCell ⟨W1.heap.size,0,none⟩ (.iface t0 p0)).setCell ⟨W1.heap.size,1,none⟩ (.iface t1 p1)).setCell ⟨W1.heap.size,2,none⟩ (.iface t2 p2)).setCell ⟨W1.heap.size,3,none⟩ (.iface t3 p3)).setCell ⟨W1.heap.size,4,none⟩ (.iface t4 p4)).setCell ⟨W1.heap.size,5,none⟩ (.iface t5 p5)):=gI hS9 hWl _ _ _ _ _ _
       have bb:((((((w9.setCell ⟨W1.heap.size,0,none⟩ (.iface t0 p0)).setCell ⟨W1.heap.size,1,none⟩ (.iface t1 p1)).setCell ⟨W1.heap.size,2,none⟩ (.iface t2 p2)).setCell ⟨W1.heap.size,3,none⟩ (.iface t3 p3)).setCell ⟨W1.heap.size,4,none⟩ (.iface t4 p4)).setCell ⟨W1.heap.size,5,none⟩ (.iface t5 p5)).cell? ⟨W1.heap.size,0,none⟩=some (.iface t0 p0)∧((((((w9.setCell ⟨W1.heap.size,0,none⟩ (.iface t0 p0)).setCell ⟨W1.heap.size,1,none⟩ (.iface t1 p1)).setCell ⟨W1.heap.size,2,none⟩ (.iface t2 p2)).setCell ⟨W1.heap.size,3,none⟩ (.iface t3 p3)).setCell ⟨W1.heap.size,4,none⟩ (.iface t4 p4)).setCell ⟨W1.heap.size,5,none⟩ (.iface t5 p5)).cell? ⟨W1.heap.size,1,none⟩=some (.iface t1 p1)∧((((((w9.setCell ⟨W1.heap.size,0,none⟩ (.iface t0 p0)).setCell ⟨W1.heap.size,1,none⟩ (.iface t1 p1)).setCell ⟨W1.heap.size,2,none⟩ (.iface t2 p2)).setCell ⟨W1.heap.size,3,none⟩ (.iface t3 p3)).setCell ⟨W1.heap.size,4,none⟩ (.iface t4 p4)).setCell ⟨W1.heap.size,5,none⟩ (.iface t5 p5)).cell? ⟨W1.heap.size,2,none⟩=some (.iface t2 p2)∧((((((w9.setCell ⟨W1.heap.size,0,none⟩ (.iface t0 p0)).setCell ⟨W1.heap.size,1,none⟩ (.iface t1 p1)).setCell ⟨W1.heap.size,2,none⟩ (.iface t2 p2)).setCell ⟨W1.heap.size,3,none⟩ (.iface t3 p3)).setCell ⟨W1.heap.size,4,none⟩ (.iface t4 p4)).setCell ⟨W1.heap.size,5,none⟩ (.iface t5 p5)).cell? ⟨W1.heap.size,3,none⟩=some (.iface t3 p3)∧((((((w9.setCell ⟨W1.heap.size,0,none⟩ (.iface t0 p0)).setCell ⟨W1.heap.size,1,none⟩ (.iface t1 p1)).setCell ⟨W1.heap.size,2,none⟩ (.iface t2 p2)).setCell ⟨W1.heap.size,3,none⟩ (.iface t3 p3)).setCell ⟨W1.heap.size,4,none⟩ (.iface t4 p4)).setCell ⟨W1.heap.size,5,none⟩ (.iface t5 p5)).cell? ⟨W1.heap.size,4,none⟩=some (.iface t4 p4)∧((((((w9.setCell ⟨W1.heap.size,0,none⟩ (.iface t0 p0)).setCell ⟨W1.heap.size,1,none⟩ (.iface t1 p1)).setCell ⟨W1.heap.size,2,none⟩ (.iface t2 p2)).setCell ⟨W1.heap.size,3,none⟩ (.iface t3 p3)).setCell ⟨W1.heap.size,4,none⟩ (.iface t4 p4)).setCell ⟨W1.heap.size,5,none⟩ (.iface t5 p5)).cell? ⟨W1.heap.size,5,none⟩=some (.iface t5 p5):=by refine⟨?_,?_,?_,?_,?_,?_⟩<;>simp[go_sem,b0,b1,b2,b3,b4,b5]
       clear b0 b1 b2 b3 b4 b5 f0 f1 f2 f3 f4 f5
       clear hb9
       obtain⟨V9,hV9⟩:∃V9,V9=((((((w9.setCell ⟨W1.heap.size,0,none⟩ (.iface t0 p0)).setCell ⟨W1.heap.size,1,none⟩ (.iface t1 p1)).setCell ⟨W1.heap.size,2,none⟩ (.iface t2 p2)).setCell ⟨W1.heap.size,3,none⟩ (.iface t3 p3)).setCell ⟨W1.heap.size,4,none⟩ (.iface t4 p4)).setCell ⟨W1.heap.size,5,none⟩ (.iface t5 p5)):=⟨_,rfl⟩
       rw[<-hV9]at hBV bb⊢
       clear hV9
       obtain⟨b0,b1,b2,b3,b4,b5⟩:=bb
       obtain⟨o0,O0,F0⟩:=HOk.out V9 hBV 0 (by omega)
       obtain⟨o1,O1,F1⟩:=HOk.out V9 hBV 1 (by omega)
       obtain⟨o2,O2,F2⟩:=HOk.out V9 hBV 2 (by omega)
       obtain⟨o3,O3,F3⟩:=HOk.out V9 hBV 3 (by omega)
       obtain⟨o4,O4,F4⟩:=HOk.out V9 hBV 4 (by omega)
       obtain⟨o5,O5,F5⟩:=HOk.out V9 hBV 5 (by omega)
       rw[cA]at O0 F0
       clear SK SKa SKb HOk hS0 hB2d
       go_wp2_with fail
       refine(HDr.out _ hBV).mono ?_
       rintro _ w10⟨rfl,hr10,hB10,hc10,hf10⟩
       have HP:Hid (mY B W L D N n g (.returned (.bool true)) (w10.setCell ⟨L,0,none⟩ (.slice (some ⟨D,0,none⟩) (n-1) N))):=⟨hB10.setCell (p:=⟨L,0,none⟩) hL _,.inr ⟨k,q,⟨r,hnr⟩,hF.out,rfl,St.put hc10 hf10 hne hr10⟩⟩
       clear HDr hr10 hB10 hBV b0 b1 b2 b3 b4 b5 O0 O1 O2 O3 O4 O5 F0 F1 F2 F3 F4 F5 HWr
       go_wp2
       go_ret
       exact HP.out
     ·have hNo:gj (g k).val (g q).val:=fun r h=>hJ ⟨r,h⟩
      have HQ3:Hid (∀j,k<j->j<q+1->gj (g k).val (g j).val):=HQ2.out hNo
      have HWr:Hid (∀wr,Below w.heap.size w wr->Calls Tryz.prog 108 #[.pointer (some ⟨D,k*6,none⟩),.pointer (some ⟨D,q*6,none⟩)] wr fun e w'=>e=.returned (.tuple #[.agg #[.nilIface,.nilIface,.nilIface,.nilIface,.nilIface,.nilIface],.bool false])∧Below wr.heap.size wr w'):=fun wr h=>(HWk.out wr h).mono (by
       rintro e w'⟨⟨r',hr',rfl⟩|⟨hno,rfl⟩,hb⟩
       ·exact absurd hr' (hNo r')
       ·exact⟨rfl,hb⟩)
      clear HWk HFk HQ2 HDk hNo hJ HOk
      go_wp2_with fail
      go_region_held3(fun w'=>Below w.heap.size w w')
       (first|(with_reducible assumption)|(with_reducible exact gI (by assumption) hWl _ _ _ _ _ _)|(with_reducible exact Below.alloc (by assumption) (Below.size (by assumption)) _))
       (first|(go_at_call 108;refine(HWr.out _ (by with_reducible assumption)).mono ?_;rintro _ w9⟨rfl,hb9⟩;first|(have hS9:Below w.heap.size w w9:=(by with_reducible exact SKa.out _ hb9))|(obtain⟨hS9,hz9,b0,b1,b2,b3,b4,b5,f0,f1,f2,f3,f4,f5⟩:=(by with_reducible exact SKb.out _ hb9:_∧_))))
      ·have hBV:=hS9.alloc hS9.size (.cells #[.nilIface,.nilIface,.nilIface,.nilIface,.nilIface,.nilIface] 117)
       clear SK SKa SKb hS0 hB2d HWr hb9
       go_wp2
       go_roundw
       case rel=>exact⟨q+1,by omega,by omega,by go_num,HQ3,hBV⟩
       case measure=>simp[intOf];omega
      ·have hBV:=gI hS9 hWl .nilIface .nilIface .nilIface .nilIface .nilIface .nilIface
       clear SK SKa SKb hS0 hB2d HWr hb9
       go_wp2
       go_roundw
       case rel=>exact⟨q+1,by omega,by omega,by go_num,HQ3,hBV⟩
       case measure=>simp[intOf];omega
    ·have eq:q=n:=by omega
     have HU:Hid (jk (ls g n) (k+1)):=HUp.out k hlt HJ.out (fun j hj hjn=>HQ.out j hj (by omega))
     have hlq':¬(q:Int)<(n:Int):=by omega
     clear HS HW HD HP0 HUp HF HQ HJ HOp
     go_wp2
     go_roundw
     case rel=>exact⟨k+1,by omega,by go_num,HU,B2⟩
     case measure=>simp[intOf];omega
  ·have hkn:k=n:=by omega
   subst hkn
   obtain⟨s,hB⟩:=HS.out W0 B1
   have HP:Hid (mY B W L D N k g (.returned (.bool false)) W0):=⟨hB,.inl ⟨HP0.out HJ.out,rfl,s⟩⟩
   clear HS HW HD HP0 HUp HF HJ s hB HOp
   go_wp2
   go_ret
   exact HP.out
theorem Er(r:Ru):(kY (gm r)).toArray= #[.iface (tyK (eQ (r.getD 0 K.zero))) (plK (eQ (r.getD 0 K.zero))),.iface (tyK (eQ (r.getD 1 K.zero))) (plK (eQ (r.getD 1 K.zero))),.iface (tyK (eQ (r.getD 2 K.zero))) (plK (eQ (r.getD 2 K.zero))),.iface (tyK (eQ (r.getD 3 K.zero))) (plK (eQ (r.getD 3 K.zero))),.iface (tyK (eQ (r.getD 4 K.zero))) (plK (eQ (r.getD 4 K.zero))),.iface (tyK (eQ (r.getD 5 K.zero))) (plK (eQ (r.getD 5 K.zero)))]:=by
 simp only[kY,iv];rw[iD r (by decide),iD r (by decide),iD r (by decide),iD r (by decide),iD r (by decide),iD r (by decide)]
theorem wQ(w:World):(w.alloc (.cells #[.nilIface,.nilIface,.nilIface,.nilIface,.nilIface,.nilIface] 117)).rowIs w.heap.size 117 6 (fun _=>.nilIface):=dn w #[.nilIface,.nilIface,.nilIface,.nilIface,.nilIface,.nilIface] 117 (fun _=>.nilIface) (fun i hi=>by
 have:i=0∨i=1∨i=2∨i=3∨i=4∨i=5:=by simp at hi;omega
 rcases this with rfl|rfl|rfl|rfl|rfl|rfl<;>rfl)
theorem ny{D t:Nat}{f:Nat->Value}(h:w.rowIs D t n f)(hb:Below w.heap.size w w1):w1.rowIs D t n f:=h.of_block (hb.block D h.lt)
theorem tU(r:Ru)(a:Option Addr)(cap:Nat)(w:World)(hs:eS 3 PK w a r)(hv:VR r):
 Calls Tryz.prog 63 #[.agg #[.slice a 6 cap]] w fun e w'=>e=.returned (.agg (kY (gm r)).toArray)∧Below w.heap.size w w':=by
 have HP:Hid (∀wr,Below w.heap.size w wr->∀i,i<6->∃b o,a=some ⟨b,o,none⟩∧b<wr.heap.size∧PK wr b (o+i*3) (r.getD i K.zero)):=fun wr hB i hi=>(hs.below PK.stays hB).at (by rw[hv.1];exact hi) K.zero
 have HC:Hid (∀i w,Calls Tryz.prog 101 #[fC (r.getD i K.zero)] w fun e w'=>e=.returned (.iface (tyK (eQ (r.getD i K.zero))) (plK (eQ (r.getD i K.zero))))∧Below w.heap.size w w'):=fun i w=>by
  have:=tP (r.getD i K.zero) w (hv.2 i).1;rw[iv]at this;exact this
 obtain⟨V,hV⟩:∃V,Value.agg (kY (gm r)).toArray=V:=⟨_,rfl⟩;have HV:Hid (V=.agg #[.iface (tyK (eQ (r.getD 0 K.zero))) (plK (eQ (r.getD 0 K.zero))),.iface (tyK (eQ (r.getD 1 K.zero))) (plK (eQ (r.getD 1 K.zero))),.iface (tyK (eQ (r.getD 2 K.zero))) (plK (eQ (r.getD 2 K.zero))),.iface (tyK (eQ (r.getD 3 K.zero))) (plK (eQ (r.getD 3 K.zero))),.iface (tyK (eQ (r.getD 4 K.zero))) (plK (eQ (r.getD 4 K.zero))),.iface (tyK (eQ (r.getD 5 K.zero))) (plK (eQ (r.getD 5 K.zero)))]):=by rw[Er]at hV;exact hV.symm
 rw[hV];clear hs hv hV;have R2:=ny (wQ (w.alloc (.cells #[.slice a 6 cap] 57))) ((af _ _).alloc (ae _) (.cells #[.nilIface,.nilIface,.nilIface,.nilIface,.nilIface,.nilIface] 117));have R3:=wQ ((w.alloc (.cells #[.slice a 6 cap] 57)).alloc (.cells #[.nilIface,.nilIface,.nilIface,.nilIface,.nilIface,.nilIface] 117));have e1:(w.alloc (.cells #[.slice a 6 cap] 57)).heap.size=w.heap.size+1:=by simp
 have e2:((w.alloc (.cells #[.slice a 6 cap] 57)).alloc (.cells #[.nilIface,.nilIface,.nilIface,.nilIface,.nilIface,.nilIface] 117)).heap.size=w.heap.size+2:=by simp
 rw[e1]at R2;rw[e2]at R3;have B0:Below w.heap.size w (((w.alloc (.cells #[.slice a 6 cap] 57)).alloc (.cells #[.nilIface,.nilIface,.nilIface,.nilIface,.nilIface,.nilIface] 117)).alloc (.cells #[.nilIface,.nilIface,.nilIface,.nilIface,.nilIface,.nilIface] 117)):=(((af _ _).alloc (ae _) _).alloc (by simp) _).alloc (by simp;omega) _;go_enter Tryz.func63,Tryz.ntmps63;go_wp2_with fail;generalize((w.alloc (.cells #[.slice a 6 cap] 57)).alloc (.cells #[.nilIface,.nilIface,.nilIface,.nilIface,.nilIface,.nilIface] 117)).alloc (.cells #[.nilIface,.nilIface,.nilIface,.nilIface,.nilIface,.nilIface] 117)=W at*;clear e1 e2;go_loopw [9](fun i wr=>∃k:Nat,k<=6∧i=.int .i64 k∧Below w.heap.size w wr∧wr.rowIs (w.heap.size+1) 117 6 (fun _=>.nilIface)∧wr.rowIs (w.heap.size+2) 117 6 (fun j=>if j<k then .iface (tyK (eQ (r.getD j K.zero))) (plK (eQ (r.getD j K.zero)))else .nilIface))(fun i _=>6-(intOf i).toNat)
 case atStart=>exact⟨0,by omega,rfl,B0,R2,by simpa using R3⟩
 case round=>
  clear B0 R2 R3;obtain⟨k,hk,rfl,B,R2,R3⟩:=hrel;rename World=>W0
  by_cases hk6:k<6
  ·obtain⟨b,o,rfl,hlt,c0,c1,c2⟩:=HP.out W0 B k hk6;have HCk:Hid _:=HC.out k;have hk6':(k:Int)<6:=by omega
   have HN:Hid (∀w1,Below (W0.alloc (.cells #[.int .i64 (r.getD k K.zero).kind,.int .u64 ((r.getD k K.zero).a:Int),.int .u64 ((r.getD k K.zero).b:Int)] 84)).heap.size (W0.alloc (.cells #[.int .i64 (r.getD k K.zero).kind,.int .u64 ((r.getD k K.zero).a:Int),.int .u64 ((r.getD k K.zero).b:Int)] 84)) w1->
    Below w.heap.size w w1∧w1.rowIs (w.heap.size+1) 117 6 (fun _=>.nilIface)∧w1.rowIs (w.heap.size+2) 117 6 (fun j=>if j<k then .iface (tyK (eQ (r.getD j K.zero))) (plK (eQ (r.getD j K.zero)))else .nilIface)):=by
    intro w1 hb;have hb0:Below W0.heap.size W0 (W0.alloc (.cells #[.int .i64 (r.getD k K.zero).kind,.int .u64 ((r.getD k K.zero).a:Int),.int .u64 ((r.getD k K.zero).b:Int)] 84)):=(af _ _).alloc (ae _) _;exact⟨eo hb (eo hb0 B),ny (ny R2 hb0) hb,ny (ny R3 hb0) hb⟩
   clear HP HC R2 R3 B;obtain⟨c,hcr⟩:∃c,r.getD k K.zero=c:=⟨_,rfl⟩;have Hcr:Hid (r.getD k K.zero=c):=hcr;rw[hcr]at c0 c1 c2 HN HCk;clear hcr;obtain⟨ck,ca,cb⟩:=c;simp only at c0 c1 c2 HN;simp only[fC]at HCk;go_wp2_with fail;refine(HCk.out _).mono ?_;rintro _ w9⟨rfl,hb9⟩;obtain⟨B9,R2,R3⟩:=HN.out w9 hb9;have q0:w9.cell? ⟨w.heap.size+2,k,none⟩=some .nilIface:=(R3.cell (i:=k) hk6).trans (by simp);have z0:=R3.frozen k;have HR4:Hid ((w9.setCell ⟨w.heap.size+2,k,none⟩ (.iface (tyK (eQ ⟨ck,ca,cb⟩)) (plK (eQ ⟨ck,ca,cb⟩)))).rowIs (w.heap.size+2) 117 6 (fun j=>if j<k+1 then .iface (tyK (eQ (r.getD j K.zero))) (plK (eQ (r.getD j K.zero)))else .nilIface)):=by
    have R4:=R3.set k (.iface (tyK (eQ ⟨ck,ca,cb⟩)) (plK (eQ ⟨ck,ca,cb⟩)));have e:(fun j=>if j=k then Value.iface (tyK (eQ ⟨ck,ca,cb⟩)) (plK (eQ ⟨ck,ca,cb⟩))else if j<k then Value.iface (tyK (eQ (r.getD j K.zero))) (plK (eQ (r.getD j K.zero)))else .nilIface)=(fun j=>if j<k+1 then Value.iface (tyK (eQ (r.getD j K.zero))) (plK (eQ (r.getD j K.zero)))else .nilIface):=by
     funext j;by_cases h1:j=k
     ·subst h1;rw[if_pos rfl,if_pos (by omega),Hcr.out]
     by_cases h2:j<k
     ·rw[if_neg h1,if_pos h2,if_pos (by omega)]
     rw[if_neg h1,if_neg h2,if_neg (by omega)]
    rw[e]at R4;exact R4
   have HR5:Hid ((w9.setCell ⟨w.heap.size+2,k,none⟩ (.iface (tyK (eQ ⟨ck,ca,cb⟩)) (plK (eQ ⟨ck,ca,cb⟩)))).rowIs (w.heap.size+1) 117 6 (fun _=>.nilIface)):=R2.of_block (by simp only[World.setCell,aH];rw[if_neg (by omega)]);have HB9:Hid (Below w.heap.size w (w9.setCell ⟨w.heap.size+2,k,none⟩ (.iface (tyK (eQ ⟨ck,ca,cb⟩)) (plK (eQ ⟨ck,ca,cb⟩))))):=B9.setCell (p:=⟨w.heap.size+2,k,none⟩) (by show w.heap.size<=w.heap.size+2;omega) _;clear R2 R3 B9 hb9 HN HCk Hcr c0 c1 c2;go_wp2;go_roundw
   case rel=>exact⟨k+1,by omega,by go_num,HB9.out,HR5.out,HR4.out⟩
   case measure=>simp[intOf];omega
  have hk':k=6:=by omega
  subst hk';have q0:W0.cell? ⟨w.heap.size+2,0,none⟩=some (.iface (tyK (eQ (r.getD 0 K.zero))) (plK (eQ (r.getD 0 K.zero)))):=(R3.cell (i:=0) (by omega)).trans (by simp);have y0:=R2.cell (i:=0) (by omega);have z0:=R2.frozen 0;have q1:W0.cell? ⟨w.heap.size+2,1,none⟩=some (.iface (tyK (eQ (r.getD 1 K.zero))) (plK (eQ (r.getD 1 K.zero)))):=(R3.cell (i:=1) (by omega)).trans (by simp);have y1:=R2.cell (i:=1) (by omega);have z1:=R2.frozen 1;have q2:W0.cell? ⟨w.heap.size+2,2,none⟩=some (.iface (tyK (eQ (r.getD 2 K.zero))) (plK (eQ (r.getD 2 K.zero)))):=(R3.cell (i:=2) (by omega)).trans (by simp);have y2:=R2.cell (i:=2) (by omega);have z2:=R2.frozen 2;have q3:W0.cell? ⟨w.heap.size+2,3,none⟩=some (.iface (tyK (eQ (r.getD 3 K.zero))) (plK (eQ (r.getD 3 K.zero)))):=(R3.cell (i:=3) (by omega)).trans (by simp);have y3:=R2.cell (i:=3) (by omega);have z3:=R2.frozen 3;have q4:W0.cell? ⟨w.heap.size+2,4,none⟩=some (.iface (tyK (eQ (r.getD 4 K.zero))) (plK (eQ (r.getD 4 K.zero)))):=(R3.cell (i:=4) (by omega)).trans (by simp);have y4:=R2.cell (i:=4) (by omega);have z4:=R2.frozen 4;have q5:W0.cell? ⟨w.heap.size+2,5,none⟩=some (.iface (tyK (eQ (r.getD 5 K.zero))) (plK (eQ (r.getD 5 K.zero)))):=(R3.cell (i:=5) (by omega)).trans (by simp);have y5:=R2.cell (i:=5) (by omega);have z5:=R2.frozen 5;generalize tyK (eQ (r.getD 0 K.zero))=t0 at*;generalize plK (eQ (r.getD 0 K.zero))=p0 at*;generalize tyK (eQ (r.getD 1 K.zero))=t1 at*;generalize plK (eQ (r.getD 1 K.zero))=p1 at*;generalize tyK (eQ (r.getD 2 K.zero))=t2 at*;generalize plK (eQ (r.getD 2 K.zero))=p2 at*;generalize tyK (eQ (r.getD 3 K.zero))=t3 at*;generalize plK (eQ (r.getD 3 K.zero))=p3 at*;generalize tyK (eQ (r.getD 4 K.zero))=t4 at*;generalize plK (eQ (r.getD 4 K.zero))=p4 at*;generalize tyK (eQ (r.getD 5 K.zero))=t5 at*;generalize plK (eQ (r.getD 5 K.zero))=p5 at*;clear HP HC R2 R3;go_wp2;exact bodyPost_ret (v:=.agg #[.iface t0 p0,.iface t1 p1,.iface t2 p2,.iface t3 p3,.iface t4 p4,.iface t5 p5]) (by simp[results,Tryz.results63,go_sem,y0,y1,y2,y3,y4,y5]) rfl ⟨by rw[HV.out],gI B (by omega) _ _ _ _ _ _⟩
def kE(l:List K):List Value:=l.flatMap fun c=>[.int .i64 c.kind,.int .u64 (c.a:Int),.int .u64 (c.b:Int)]
theorem zI(l:List K)(c:K):kE (l++[c])=kE l++[.int .i64 c.kind,.int .u64 (c.a:Int),.int .u64 (c.b:Int)]:=by simp[kE]
abbrev oK(w:World)(B:Nat)(v:Value)(l:List K):Prop:=w.ownsRow B 84 3 v l.length (kE l)
theorem FV:(Tryz.prog.info? 84).map (fun i=>(i.zero,i.size,i.bytes))=some (some (.agg #[.int .i64 0,.int .u64 0,.int .u64 0]),3,24):=by kernel_rfl
theorem Ct{r:Ru}{k:Nat}(h:k<r.length):r.take (k+1)=r.take k++[r.getD k K.zero]:=by
 rw[cK,ag h,aa,ag h];rfl
theorem la{B:Nat}(h:oK w B v l)(hb:Below w.heap.size w w1):oK w1 B v l:=aA (row:=none) h ⟨hb.os,hb.tape,hb.output,hb.size,fun k hk _=>hb.block k hk⟩ (by cases v.ownBlock<;>simp)
theorem kH{base t s:Nat}{xs:List Value}(h:w.ownsRow base t s v n xs)(e:∀q,v.ownBlock=some q->w1.heap[q]? =w.heap[q]?):w1.ownsRow base t s v n xs:=by
 obtain⟨h0,h|⟨g,cap,cur,rfl,hb,hg,hr⟩⟩:=h
 ·exact⟨h0,.inl h⟩
 exact⟨h0,.inr ⟨g,cap,cur,rfl,hb,(e g (by simp[Value.ownBlock])).trans hg,hr⟩⟩
theorem qe(u:World)(x:Value)(t A:Nat)(h:A=u.heap.size):(u.alloc (.cells #[x] t)).cell? ⟨A,0,none⟩=some x∧(u.alloc (.cells #[x] t)).frozen? ⟨A,0,none⟩=false:=by subst h;constructor<;>simp
structure RuS(w wr:World)(v:Value)(g:Nat)(l:List K):Prop where
 b:Below w.heap.size w wr
 c:wr.cell? ⟨w.heap.size+1+1,0,none⟩=some v
 f:wr.frozen? ⟨w.heap.size+1+1,0,none⟩=false
 c0:wr.cell? ⟨w.heap.size,0,none⟩=some (.slice none 0 0)
 f0:wr.frozen? ⟨w.heap.size,0,none⟩=false
 own:oK wr (w.heap.size+1) v l
 ob:v.ownBlock=some g
 ne:g≠w.heap.size+1+1
theorem RuS.ey{wr:World}{g:Nat}(h:RuS w wr v g l)(hb:Below wr.heap.size wr w1):RuS w w1 v g l:=
 have h1:=fA h.c
 have h2:=fA h.c0
 ⟨eo hb h.b,eh hb h.c,(hb.frozen (p:=⟨w.heap.size+1+1,0,none⟩) h1).trans h.f,eh hb h.c0,(hb.frozen (p:=⟨w.heap.size,0,none⟩) h2).trans h.f0,la h.own hb,h.ob,h.ne⟩
theorem RuS.next{wr:World}{g gg cap:Nat}{c:K}(h:RuS w wr v g l)(hown:w1.ownsRow (w.heap.size+1) 84 3 (.slice (some ⟨gg,0,none⟩) (l.length+1) cap) (l.length+1) (kE l++[.int .i64 c.kind,.int .u64 (c.a:Int),.int .u64 (c.b:Int)]))(hg:wr.grownBy w1 v.ownBlock)(hat:v.ownBlock=some gg∨gg=wr.heap.size):
 w1.cell? ⟨w.heap.size+1+1,0,none⟩=some v∧w1.frozen? ⟨w.heap.size+1+1,0,none⟩=false∧RuS w (w1.setCell ⟨w.heap.size+1+1,0,none⟩ (.slice (some ⟨gg,0,none⟩) (l.length+1) cap)) (.slice (some ⟨gg,0,none⟩) (l.length+1) cap) gg (l++[c]):=by
 have h1:=fA h.c;have h2:=fA h.c0;simp only at h1 h2;have hgb:=(h.own.lt g h.ob).1;have ne1:some (w.heap.size+1+1)≠v.ownBlock:=by rw[h.ob];intro e;cases e;exact h.ne rfl
 have ne2:some w.heap.size≠v.ownBlock:=by rw[h.ob];intro e;injection e with e;omega
 have x1:=(hg.cell_far ⟨w.heap.size+1+1,0,none⟩ h1 ne1).trans h.c;have x2:=(hg.frozen_far ⟨w.heap.size+1+1,0,none⟩ h1 ne1).trans h.f;have x3:=(hg.cell_far ⟨w.heap.size,0,none⟩ h2 ne2).trans h.c0;have x4:=(hg.frozen_far ⟨w.heap.size,0,none⟩ h2 ne2).trans h.f0;have hgne:gg≠w.heap.size+1+1:=by
  rcases hat with e|e
  ·rw[h.ob]at e;cases e;exact h.ne
  omega
 have hb1:Below w.heap.size w w1:=h.b.grown hg (by omega) (fun z hz=>by rw[h.ob]at hz;cases hz;omega);refine⟨x1,x2,⟨hb1.setCell (p:=⟨w.heap.size+1+1,0,none⟩) (by show w.heap.size<=w.heap.size+1+1;omega) _,aG _ _ _ x1,by rw[ia];exact x2,?_,by rw[ia];exact x4,?_,rfl,hgne⟩⟩
 ·rw[aJ _ _ _ _ (by intro e;injection e with e;omega)];exact x3
 have e:(l++[c]).length=l.length+1:=by simp
 show World.ownsRow _ _ _ _ _ (l++[c]).length (kE (l++[c]));rw[e,zI];exact kH hown (fun q hq=>by
  have:q=gg:=by simpa[Value.ownBlock]using hq.symm
  subst this
  simp only[World.setCell,aH];rw[if_neg (fun e=>hgne e.symm)])
theorem AO(r:Ru)(D o:Nat)(w:World)(hs:wH w D o r)(hv:NR r):
 Calls Tryz.prog 68 #[.pointer (some ⟨D,o,none⟩)] w fun e w'=>∃v,e=.returned (.agg #[v])∧oK w' w.heap.size v r∧Below w.heap.size w w':=by
 obtain⟨i0,hi,hz0,hz1,hz2⟩:=info_parts FV;have HX:Hid (∀wr,Below w.heap.size w wr->∀k,k<6->wr.cell? ⟨D,o+k,none⟩=some (.iface (tyK (r.getD k K.zero)) (plK (r.getD k K.zero)))):=fun wr h k hk=>(hs.below h).2 k hk
 have HM:Hid (∀k,De (r.getD k K.zero)):=fun k=>Fl (hv.2 k)
 have HT:Hid (∀k,k<6->r.take (k+1)=r.take k++[r.getD k K.zero]):=fun k hk=>Ct (by rw[hv.1];exact hk)
 have HTl:Hid (∀k,k<=6->(r.take k).length=k):=fun k hk=>by rw[bN,hv.1];omega
 have HT6:Hid (r.take 6=r):=by unfold Hid;rw[<-hv.1];exact ct
 clear hs hv;have hmk:∀u:World,(Instr.makeSlice 55 (.int .i64 0) (.int .i64 6)).run Tryz.prog u=
  .ok (.slice (some ⟨u.heap.size,0,none⟩) 0 6) (u.alloc (.cells (madeCells #[.int .i64 0,.int .u64 0,.int .u64 0] 18) 84)):=fun u=>by
  have h:=run_make (P:=Tryz.prog) u 55 84 i0 _ Tryz.underlying55 hi hz0 .i64 .i64 0 6 (by omega) (by omega) (by rw[hz2];omega) (by omega);simpa[hz1,Value.cells]using h
 go_enter Tryz.func68,Tryz.ntmps68;go_wp2_with fail;have S0:RuS w (((w.alloc (.cells #[.slice none 0 0] 57)).alloc (.cells (madeCells #[.int .i64 0,.int .u64 0,.int .u64 0] 18) 84)).alloc (.cells #[.slice (some ⟨w.heap.size+1,0,none⟩) 0 6] 57)) (.slice (some ⟨w.heap.size+1,0,none⟩) 0 6) (w.heap.size+1) []:=by
  have q1:=qe ((w.alloc (.cells #[.slice none 0 0] 57)).alloc (.cells (madeCells #[.int .i64 0,.int .u64 0,.int .u64 0] 18) 84)) (.slice (some ⟨w.heap.size+1,0,none⟩) 0 6) 57 (w.heap.size+1+1) (by simp);have q2:=qe w (.slice none 0 0) 57 w.heap.size rfl;have hb2:Below (w.alloc (.cells #[.slice none 0 0] 57)).heap.size (w.alloc (.cells #[.slice none 0 0] 57)) (((w.alloc (.cells #[.slice none 0 0] 57)).alloc (.cells (madeCells #[.int .i64 0,.int .u64 0,.int .u64 0] 18) 84)).alloc (.cells #[.slice (some ⟨w.heap.size+1,0,none⟩) 0 6] 57)):=((af _ _).alloc (ae _) _).alloc (by simp) _;refine⟨(((af _ _).alloc (ae _) _).alloc (by simp) _).alloc (by simp;omega) _,q1.1,q1.2,(hb2.cell (p:=⟨w.heap.size,0,none⟩) (by simp)).trans q2.1,(hb2.frozen (p:=⟨w.heap.size,0,none⟩) (by simp)).trans q2.2,?_,rfl,by omega⟩;have h:=World.ownsRow_made (base:=w.heap.size+1) (e:=84) (size:=3) (w.alloc (.cells #[.slice none 0 0] 57)) (madeCells #[.int .i64 0,.int .u64 0,.int .u64 0] 18) 6 (by simp) (by unfold maxLen;omega) (by rw[size_madeCells]);have e:(w.alloc (.cells #[.slice none 0 0] 57)).heap.size=w.heap.size+1:=by simp
  rw[e]at h;exact h.alloc _
 generalize(((w.alloc (.cells #[.slice none 0 0] 57)).alloc (.cells (madeCells #[.int .i64 0,.int .u64 0,.int .u64 0] 18) 84)).alloc (.cells #[.slice (some ⟨w.heap.size+1,0,none⟩) 0 6] 57))=W at*;clear hmk;go_loopw [10](fun i wr=>∃(k:Nat)(v:Value)(g:Nat),k<=6∧i=.int .i64 k∧RuS w wr v g (r.take k))(fun i _=>6-(intOf i).toNat)
 case atStart=>exact⟨0,_,_,by omega,rfl,S0⟩
 case round=>
  clear S0;obtain⟨k,v,g,hk,rfl,hS⟩:=hrel;rename World=>W0
  by_cases hk6:k<6
  ·have x0:=HX.out W0 hS.b k hk6;obtain⟨T,P,F,e1,e2,e4,e5,HF0⟩:=HM.out k;rw[iv]at e1;injection e1 with eT eP
   subst eT;subst eP;have HF:Hid (∀w,Calls Tryz.prog F #[plK (r.getD k K.zero)] w fun e w'=>e=.returned (fC (r.getD k K.zero))∧LB w w'):=HF0;have HTk:Hid (r.take (k+1)=r.take k++[r.getD k K.zero]):=HT.out k hk6;have hlk:=HTl.out k (by omega);have hk6':(k:Int)<6:=by omega
   have hc:=hS.c;clear HX HM HT HTl HT6 HF0;generalize tyK (r.getD k K.zero)=T at*;generalize plK (r.getD k K.zero)=P at*;generalize hcr:r.getD k K.zero=c at*;clear hcr;generalize r.take k=l at*;obtain⟨ck,ca,cb⟩:=c;simp only[fC]at HF;have SKc:Hid (∀w9,LB W0.drew w9->RuS w w9 v g l∧w9.cell? ⟨w.heap.size+1+1,0,none⟩=some v∧w.heap.size+1+1<w9.heap.size∧∀ob,(w9.alloc ob).cell? ⟨w.heap.size+1+1,0,none⟩=some v):=fun w9 hb=>by
    have:=(hS.ey (af _ _).drew).ey hb.1;exact⟨this,this.c,fA this.c,fun ob=>eh ((af _ _).alloc (ae _) ob) this.c⟩
   have hcd:W0.drew.cell? ⟨w.heap.size+1+1,0,none⟩=some v:=hS.c;have hvf:∃gg cc,v=.slice (some ⟨gg,0,none⟩) k cc:=by
    obtain⟨_,h|⟨gg,cc,cur,e,_⟩⟩:=hS.own
    ·have:=hS.ob;rw[h.1]at this;cases this
    exact⟨gg,cc,by rw[e,hlk]⟩
   obtain⟨gg0,cc0,rfl⟩:=hvf;have hbm:l.length+1<=maxLen:=by rw[hlk];unfold maxLen;omega
   have hbd:(l.length+1)*24<=140737488355328:=by rw[hlk];omega
   have HLk:Hid (l.length=k):=hlk;clear hS hc hlk;go_wp2_with fail;go_region_law(first
    |(go_simp;refine(HF.out _).mono ?_;rintro _ w9⟨rfl,hb9⟩;obtain⟨hS9,hc9,hl9,ha9⟩:=SKc.out w9 hb9;dsimp only)
    |(refine step_append_lies _ (by rfl) _ _ _ (by rfl) (w.heap.size+1) 84 i0 _ 3 24 Tryz.underlying55 hi hz0 hz1 hz2 rfl (by omega) (.slice (some ⟨gg0,0,none⟩) k cc0) l.length (kE l) (by rfl) (hS9.own.alloc _) ⟨w9.heap.size,0,none⟩ 1 1 [.int .i64 ck,.int .u64 (ca:Int),.int .u64 (cb:Int)] (by rfl) (by rfl) (World.news_of_block (t:=84) (fr:=(0,0)) (heap_alloc_new w9 _)) (by simp[Value.oneCell']) (by omega) hbm hbd (by simp;omega) (w9.heap.size+1) (by simp) ?_;intro gg cap2 w1 hown1 hgrow hat hlt2;obtain⟨x1,x2,x3⟩:=RuS.next (c:=⟨ck,ca,cb⟩) (hS9.ey ((af _ _).alloc (ae _) _)) hown1 hgrow (by simpa using hat)))
   all_goals
    have HX3:Hid _:=x3;clear x1 x2 x3 hown1 hgrow hat hlt2 hS9 hc9 hl9 ha9 hb9 SKc HF;go_wp2;go_roundw
    case rel=>exact⟨k+1,_,gg,by omega,by go_num,by rw[HTk.out];exact HX3.out⟩
    case measure=>simp[intOf];omega
  have hk':k=6:=by omega
  subst hk';rw[HT6.out]at hS;obtain⟨hb,hc,hf,hc0,hf0,hown,hob,hne⟩:=hS;have hvf:∃gg cc,v=.slice (some ⟨gg,0,none⟩) r.length cc:=by
   obtain⟨_,h|⟨gg,cc,cur,e,_⟩⟩:=hown
   ·rw[h.1]at hob;cases hob
   exact⟨gg,cc,e⟩
  obtain⟨gg,cc,rfl⟩:=hvf;have hg:gg=g:=by simpa[Value.ownBlock]using hob
  subst hg;have hge:=(hown.lt gg hob).1;have HO:Hid (oK (W0.setCell ⟨w.heap.size,0,none⟩ (.slice (some ⟨gg,0,none⟩) r.length cc)) w.heap.size (.slice (some ⟨gg,0,none⟩) r.length cc) r):=by
   refine World.ownsRow.mono (base:=w.heap.size+1) (kH hown (fun q hq=> ?_)) (by omega);have:q=gg:=by simpa[Value.ownBlock]using hq.symm
   subst this;simp only[World.setCell,aH];rw[if_neg (by omega)]
  have HB:Hid (Below w.heap.size w (W0.setCell ⟨w.heap.size,0,none⟩ (.slice (some ⟨gg,0,none⟩) r.length cc))):=hb.setCell (p:=⟨w.heap.size,0,none⟩) (ae _) _;clear hown hb HX HM HT HTl HT6;generalize r.length=rl at*;go_wp2;exact bodyPost_ret (v:=.agg #[.slice (some ⟨gg,0,none⟩) rl cc]) (by simp[results,Tryz.results68,go_sem,hc0]) rfl ⟨_,rfl,HO.out,HB.out⟩
end Go.Proofs.YtdihdapmphkhpaaGreat
