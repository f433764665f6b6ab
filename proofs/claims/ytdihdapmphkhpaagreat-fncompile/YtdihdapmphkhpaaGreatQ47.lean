import Derived.Test.YtdihdapmphkhpaaGreatQ42
set_option linter.all false
set_option maxRecDepth 200000
set_option maxHeartbeats 16000000
namespace Go.Proofs.YtdihdapmphkhpaaGreat
open Go.RowKit
attribute [local go_sem↓]Go.wp_at_zero Go.wp_at_succ
def rz(s:S)(rv:Value)(nx st:Int)(en:Bool)(re:Int)(i:Nat):Value:=
 if i=0 then .int .u32 s.a else if i=1 then .int .u32 s.x else if i<18 then .int .u32 (s.m (i-2))else if i=18 then rv
 else if i=19 then .int .i64 nx else if i=20 then .int .i64 st else if i=21 then .bool en else .int .u32 re
def fH(w:World)(g:Nat)(s:S)(rv:Value)(nx st:Int)(en:Bool)(re:Int):Prop:=w.rowIs g 72 23 (rz s rv nx st en re)
section
variable{w:World}{g:Nat}{s:S}{rv:Value}{nx st:Int}{en:Bool}{re:Int}
theorem fH.c0(h:fH w g s rv nx st en re):w.cell? ⟨g,0,none⟩=some (.int .u32 s.a):=h.cell (by omega)
theorem fH.c1(h:fH w g s rv nx st en re):w.cell? ⟨g,1,none⟩=some (.int .u32 s.x):=h.cell (by omega)
theorem fH.cm(h:fH w g s rv nx st en re)(k:Nat)(hk:k<16):w.cell? ⟨g,2+k,none⟩=some (.int .u32 (s.m k)):=by
 rw[h.cell (by omega)];unfold rz;rw[if_neg (by omega),if_neg (by omega),if_pos (by omega),show 2+k-2=k by omega]
theorem fH.cr(h:fH w g s rv nx st en re):w.cell? ⟨g,18,none⟩=some rv:=h.cell (by omega)
theorem fH.cn(h:fH w g s rv nx st en re):w.cell? ⟨g,19,none⟩=some (.int .i64 nx):=h.cell (by omega)
theorem fH.cs(h:fH w g s rv nx st en re):w.cell? ⟨g,20,none⟩=some (.int .i64 st):=h.cell (by omega)
theorem fH.ce(h:fH w g s rv nx st en re):w.cell? ⟨g,21,none⟩=some (.bool en):=h.cell (by omega)
theorem fH.cx(h:fH w g s rv nx st en re):w.cell? ⟨g,22,none⟩=some (.int .u32 re):=h.cell (by omega)
theorem fH.fz(h:fH w g s rv nx st en re)(i:Nat):w.frozen? ⟨g,i,none⟩=false:=h.frozen i
theorem fH.alloc(h:fH w g s rv nx st en re)(o:Obj):fH (w.alloc o) g s rv nx st en re:=World.rowIs.alloc h o
theorem fH.drew(h:fH w g s rv nx st en re):fH w.drew g s rv nx st en re:=h
theorem fH.below{w':World}(h:fH w g s rv nx st en re)(hb:Below w.heap.size w w'):fH w' g s rv nx st en re:=World.rowIs.of_block h (hb.block g (bS h))
theorem fH.kept{w':World}(h:fH w g s rv nx st en re)(e:w'.heap[g]? =w.heap[g]?):fH w' g s rv nx st en re:=World.rowIs.of_block h e
theorem fH.seta(h:fH w g s rv nx st en re)(v:Int):fH (w.setCell ⟨g,0,none⟩ (.int .u32 v)) g {s with a:=v} rv nx st en re:=
 (dI h 0 (.int .u32 v)).congr (fun i hi=>by
  unfold rz
  by_cases e:i=0
  ·simp[e]
  simp[e])
theorem fH.setn(h:fH w g s rv nx st en re)(v:Int):fH (w.setCell ⟨g,19,none⟩ (.int .i64 v)) g s rv v st en re:=
 (dI h 19 (.int .i64 v)).congr (fun i hi=>by
  unfold rz
  by_cases e:i=19
  ·simp[e]
  simp[e])
theorem fH.sets(h:fH w g s rv nx st en re)(v:Int):fH (w.setCell ⟨g,20,none⟩ (.int .i64 v)) g s rv nx v en re:=
 (dI h 20 (.int .i64 v)).congr (fun i hi=>by
  unfold rz
  by_cases e:i=20
  ·simp[e]
  simp[e])
theorem fH.sete(h:fH w g s rv nx st en re)(v:Bool):fH (w.setCell ⟨g,21,none⟩ (.bool v)) g s rv nx st v re:=
 (dI h 21 (.bool v)).congr (fun i hi=>by
  unfold rz
  by_cases e:i=21
  ·simp[e]
  simp[e])
theorem fH.setr(h:fH w g s rv nx st en re)(v:Int):fH (w.setCell ⟨g,22,none⟩ (.int .u32 v)) g s rv nx st en v:=
 (dI h 22 (.int .u32 v)).congr (fun i hi=>by
  unfold rz
  by_cases e:i=22
  ·simp[e]
  rw[if_neg e]
  have:i<22:=by omega
  repeat' split
  all_goals first|rfl|omega)
end
theorem jP{w w1:World}{r:Option Nat}(h:w.grownBy w1 r)(o:Obj):w.grownBy (w1.alloc o) r:=
 ⟨h.os,h.tape,h.output,by have:=h.size;simp;omega,fun k hk hne=>(dS w1 o k (by have:=h.size;omega)).trans (h.block k hk hne)⟩
theorem nY{w w1:World}{r:Option Nat}(h:w.grownBy w1 r):w.grownBy w1.drew r:=⟨h.os,h.tape,h.output,h.size,h.block⟩
theorem nQ{w wr:World}{D:Nat}(h:w.grownBy wr (some D))(j:Nat)(v:Value):w.grownBy (wr.setCell ⟨D,j,none⟩ v) (some D):=
 ⟨h.os,h.tape,h.output,by have:=h.size;simpa[World.setCell]using this,fun k hk hne=>(aE wr ⟨D,j,none⟩ v k (fun e=>hne (by rw[e]))).trans (h.block k hk hne)⟩
theorem GY{w w1:World}{r:Option Nat}(h:Below w.heap.size w w1):w.grownBy w1 r:=⟨h.os,h.tape,h.output,h.size,fun k hk _=>h.block k hk⟩
theorem nc{w w1 w2:World}{r:Option Nat}(h:w.grownBy w1 r)(k:w1.grownBy w2 r):w.grownBy w2 r:=
 ⟨k.os.trans h.os,k.tape.trans h.tape,k.output.trans h.output,aW h.size k.size,fun i hi hne=>(k.block i (an hi h.size) hne).trans (h.block i hi hne)⟩
theorem Hp(g:Nat)(s:S)(rv:Value)(nx st:Int)(en:Bool)(re v:Int)(w:World)(hM:fH w g s rv nx st en re):
 Calls Tryz.prog 113 #[.pointer (some ⟨g,0,none⟩),.int .u32 v] w fun e w'=>e=.returned (.tuple #[])∧fH w' g s rv nx st true v∧w.grownBy w' (some g):=by
 have HM:Hid _:=(hM.sete true).setr v;have e1:=hM.ce;have f1:=hM.fz 21;have e2:=hM.cx;have f2:=hM.fz 22;clear hM;go_enter Tryz.func113,Tryz.ntmps113;go_wp2;go_end0;exact⟨rfl,HM.out,nQ (nQ (ah _ _) _ _) _ _⟩
end Go.Proofs.YtdihdapmphkhpaaGreat
namespace Go.Proofs.YtdihdapmphkhpaaGreat
open Go.RowKit
variable{P:Program}{Q:Exit->Act->World->Prop}{a:Act}{c:Code}{w:World}
attribute [local go_sem↓]Go.wp_at_zero Go.wp_at_succ
theorem oG(g:Nat)(s:S)(rv:Value)(nx st:Int)(en:Bool)(re c jt jf k:Int)(h:Bool)(w:World)(hM:fH w g s rv nx st en re)(n0:0<=nx)(n1:nx<=1000000)(j0:0<=jt∧jt<=255)(j1:0<=jf∧jf<=255):
 Calls Tryz.prog 112 #[.pointer (some ⟨g,0,none⟩),kD c jt jf k,.bool h] w fun e w'=>e=.returned (.tuple #[])∧fH w' g s rv (nx+if h then jt else jf) st en re∧w.grownBy w' (some g):=by
 have hne:g≠w.heap.size:=by have:=bS hM;omega
 have hlt:=bS hM
 cases h
 ·have HM:Hid _:=((hM.setn (nx+jf)).alloc (.cells #[.int .u16 c,.int .u8 jt,.int .u8 jf,.int .u32 k] 68)).drew;have e1:=hM.cn;have f1:=hM.fz 19;clear hM;go_enter Tryz.func112,Tryz.ntmps112;go_wp2;go_region;all_goals go_wp2
  all_goals go_end0
  all_goals exact⟨rfl,HM.out,nY (jP (nQ (ah _ _) _ _) _)⟩
 have HM:Hid _:=((hM.setn (nx+jt)).alloc (.cells #[.int .u16 c,.int .u8 jt,.int .u8 jf,.int .u32 k] 68)).drew;have e1:=hM.cn;have f1:=hM.fz 19;clear hM;go_enter Tryz.func112,Tryz.ntmps112;go_wp2;go_region;all_goals go_wp2
 all_goals exact bodyPost_ret (v:=.tuple #[]) (by simp[results,Tryz.results112,go_sem]) rfl ⟨rfl,HM.out,nY (jP (nQ (ah _ _) _ _) _)⟩
theorem uH(g rb ro rc:Nat)(s:S)(nx st:Int)(en:Bool)(re k:Int)(r:List Int)(w:World)(hM:fH w g s (.slice (some ⟨rb,ro,none⟩) 64 rc) nx st en re)(hr:nO w rb ro r)(hrl:r.length=64)(hrr:eV r)(hrc:64<=rc)(k0:0<=k)(k1:k<=60):
 Calls Tryz.prog 114 #[.pointer (some ⟨g,0,none⟩),.int .i64 k] w fun e w'=>e=.returned (.int .u32 (jJ r k.toNat))∧Below w.heap.size w w':=by
 have e1:=hM.cr;obtain⟨q,rfl⟩:=Int.eq_ofNat_of_zero_le k0;rw[Int.toNat_natCast];have g:=fun j=>ez hrr j
 have HW:Hid (∀wx,(∀j,wx.cell? ⟨rb,j,none⟩=w.cell? ⟨rb,j,none⟩)->Calls Tryz.prog 136 #[.slice (some ⟨rb,ro+q,none⟩) 4 (rc-q)] wx fun e w'=>e=.returned (.int .u32 (jJ r q))∧∃m,w'=wx.drewN m):=fun wx hx=>
  DU rb (ro+q) (rc-q) _ _ _ _ wx ((hx _).trans (hr q (by omega))) ((hx _).trans (by rw[cX];exact hr (q+1) (by omega))) ((hx _).trans (by rw[cX];exact hr (q+2) (by omega))) ((hx _).trans (by rw[cX];exact hr (q+3) (by omega))) (g _) (g _) (g _) (g _)
 clear hM hr;have i5:¬rc=q:=by omega
 go_enter Tryz.func114,Tryz.ntmps114;go_wp2_with fail;refine(HW.out _ (fun _=>rfl)).mono ?_;rintro e w'⟨rfl,m,rfl⟩;go_wp2;go_ret;exact⟨rfl,below_drewN (af _ _) _⟩
def opI(r:List Int)(i:I)(s:S):Int:=if i.c=32 then jJ r i.k.toNat else if i.c=96∨i.c=97 then s.m i.k.toNat else opV i s
theorem and8(c:Int)(h0:0<=c)(h1:c<=65535):(bits .and .u16 c 8 !=0)=(c/8%2==1):=by
 rw[u16_and c 8 h0 (by omega) (by omega) (by omega)];have e:(c.toNat&&&(8:Int).toNat)=c.toNat/8%2*8:=nat_bit 3 c.toNat;rw[e];have h2:((c.toNat/8%2:Nat):Int)=c/8%2:=by omega
 rcases Nat.mod_two_eq_zero_or_one (c.toNat/8)with h|h<;>rw[h]at h2⊢<;>rw[<-h2]<;>simp
theorem Ar(g rb ro rc:Nat)(s:S)(nx st:Int)(en:Bool)(re:Int)(i:I)(r:List Int)(w:World)(hM:fH w g s (.slice (some ⟨rb,ro,none⟩) 64 rc) nx st en re)(hrb:rb<w.heap.size)(hr:nO w rb ro r)(hrl:r.length=64)(hrr:eV r)(hrc:64<=rc)(hi:i.ok)
 (hk1:i.c=32->i.k<=60)(hk2:oQ i.c=true->i.k<16):
 Calls Tryz.prog 74 #[.pointer (some ⟨g,0,none⟩),kD i.c i.jt i.jf i.k] w fun e w'=>e=.returned (.int .u32 (opI r i s))∧Below w.heap.size w w':=by
 obtain⟨c,jt,jf,k⟩:=i
 obtain⟨h1,h2,h3,h4,h5,h6,h7,h8⟩:=hi
 simp only at h1 h2 h3 h4 h5 h6 h7 h8 hk1 hk2⊢
 have hlt:=bS hM
 have hne:¬w.heap.size=g:=by omega
 by_cases e32:c=32
 ·subst e32
  have HW:Hid (∀wx,Below w.heap.size w wx->Calls Tryz.prog 114 #[.pointer (some ⟨g,0,none⟩),.int .i64 k] wx fun e w'=>e=.returned (.int .u32 (opI r ⟨32,jt,jf,k⟩ s))∧Below wx.heap.size wx w'):=fun wx hB=>by
   have h:=uH g rb ro rc s nx st en re k r wx (hM.below hB) (fun j hj=>(hB.cell (p:=⟨rb,_,none⟩) hrb).trans (hr j hj)) hrl hrr hrc h7 (hk1 rfl)
   simpa[opI]using h
  generalize opI r ⟨32,jt,jf,k⟩ s=y at*
  have hB0:Below w.heap.size w (w.alloc (.cells #[.int .u16 32,.int .u8 jt,.int .u8 jf,.int .u32 k] 68)):=(af _ _).alloc (ae _) _
  have HB:Hid _:=hB0
  clear hM hr hB0
  go_enter Tryz.func74,Tryz.ntmps74
  go_wp2_with fail
  refine(HW.out _ HB.out).mono ?_
  rintro e w'⟨rfl,hb1⟩
  go_wp2
  go_ret
  exact⟨rfl,HB.out.trans (hb1.mono (by simp))⟩
 ·by_cases e96:c=96∨c=97
  ·have hk:=hk2 (by rcases e96 with e|e<;>subst e<;>rfl)
   have cm:=hM.cm k.toNat (by omega)
   have HO:Hid (opI r ⟨c,jt,jf,k⟩ s=s.m k.toNat):=by unfold Hid opI;simp[e32,e96]
   have ki:(0:Int)<=k:=h7
   have ki2:k<16:=hk
   rcases e96 with e|e
   ·subst e
    rw[HO.out]
    clear hM hr HO hk1 hk2
    generalize s.m k.toNat=y at*
    go_enter Tryz.func74,Tryz.ntmps74
    go_wp2_with fail
    go_quiet(fail)
    go_wp2
    go_ret
    exact⟨rfl,below_drewN ((af _ _).alloc (ae _) _) _⟩
   ·subst e
    rw[HO.out]
    clear hM hr HO hk1 hk2
    generalize s.m k.toNat=y at*
    go_enter Tryz.func74,Tryz.ntmps74
    go_wp2_with fail
    go_quiet(fail)
    go_wp2
    go_ret
    exact⟨rfl,below_drewN ((af _ _).alloc (ae _) _) _⟩
  ·have b1:(c==32)=false:=by simp[e32]
   have b2:(c==96)=false:=by simp;omega
   have b3:(c==97)=false:=by simp;omega
   have HO:Hid (opI r ⟨c,jt,jf,k⟩ s=if c/8%2=1 then s.x else k):=by unfold Hid opI;simp[e32,e96,opV]
   have hx:=hM.c1
   have h8':=and8 c h1 h2
   rw[HO.out]
   clear hM hr HO hk1 hk2 e96
   by_cases e8:c/8%2=1
   ·rw[if_pos e8]
    rw[show(c/8%2==1)=true from by simp[e8]]at h8'
    clear e8
    go_enter Tryz.func74,Tryz.ntmps74
    go_wp2
    go_ret
    exact⟨rfl,(af _ _).alloc (ae _) _⟩
   ·rw[if_neg e8]
    rw[show(c/8%2==1)=false from by simp[e8]]at h8'
    clear e8
    go_enter Tryz.func74,Tryz.ntmps74
    go_wp2
    go_ret
    exact⟨rfl,(af _ _).alloc (ae _) _⟩
def spine:Code->List (Nat⊕Code)
 |.block n c=>.inl n::spine c
 |.seq (.block n c) y=>.inr y::.inl n::spine c
 |_=>[]
def base:Code->Code
 |.block _ c=>base c
 |.seq (.block _ c) _=>base c
 |c=>c
def sX(P:Program):Nat⊕Code->(Exit->Act->World->Prop)->Exit->Act->World->Prop
 |.inl n,Q=>Exit.inBlock n Q
 |.inr y,Q=>Exit.then (y.wp P Q) Q
def foldI(P:Program):List (Nat⊕Code)->(Exit->Act->World->Prop)->Exit->Act->World->Prop
 |[],Q=>Q
 |f::r,Q=>sX P f (foldI P r Q)
theorem vN(P:Program)(l:List (Nat⊕Code))(f:Nat⊕Code)(Q:Exit->Act->World->Prop):foldI P (l++[f]) Q=foldI P l (sX P f Q):=by
 induction l with
 |nil=>rfl
 |cons g l ih=>simp only[aO,foldI,ih]
theorem Gw(P:Program):∀(c:Code)(Q:Exit->Act->World->Prop)(a:Act)(w:World),(base c).wp P (foldI P (spine c).reverse Q) a w->c.wp P Q a w:=by
 intro c;induction c using spine.induct with
 |case1 n c ih=>
  intro Q a w h;refine wp_block (ih _ a w ?_);simp only[base,spine,List.reverse_cons,vN,sX]at h;exact h
 |case2 n c y ih=>
  intro Q a w h;refine wp_seq (wp_block (ih _ a w ?_));simp only[base,spine,List.reverse_cons,vN,sX]at h;exact h
 |case3 c h1 h2=>
  intro Q a w h;have e1:spine c=[]:=by
   unfold spine;split
   ·exact absurd rfl (h1 _ _)
   ·exact absurd rfl (h2 _ _ _)
   rfl
  have e2:base c=c:=by
   unfold base;split
   ·exact absurd rfl (h1 _ _)
   ·exact absurd rfl (h2 _ _ _)
   rfl
  rw[e1,e2]at h;exact h
def qs:List (Nat⊕Code)->Option Nat->Option (Code×List (Nat⊕Code))
 |[],_=>none
 |.inl n::r,some k=>qs r (if k=n then none else some k)
 |.inl _::r,none=>qs r none
 |.inr _::r,some k=>qs r (some k)
 |.inr y::r,none=>some (y,r)
def we:List (Nat⊕Code)->Option Nat->Bool
 |[],none=>true
 |[],some _=>false
 |.inl n::r,some k=>we r (if k=n then none else some k)
 |.inl _::r,none=>we r none
 |.inr _::r,some k=>we r (some k)
 |.inr _::_,none=>false
def yy:Option Nat->Exit
 |none=>.normal
 |some k=>.exit k
theorem FT(P:Program)(Q:Exit->Act->World->Prop)(a:Act)(w:World)(y:Code)(r:List (Nat⊕Code)):∀(l:List (Nat⊕Code))(e:Option Nat),qs l e=some (y,r)->y.wp P (foldI P r Q) a w->foldI P l Q (yy e) a w:=by
 intro l;induction l with
 |nil=>intro e h;simp[qs]at h
 |cons f l ih=>
  intro e h hy;match f,e with
  |.inl n,some k=>
   simp only[qs]at h;have:=ih _ h hy;simp only[foldI,sX,yy,Exit.inBlock];split
   ·rename_i hk;rw[if_pos hk]at this;exact this
   rename_i hk;rw[if_neg hk]at this;exact this
  |.inl n,none=>simp only[qs]at h;exact ih none h hy
  |.inr z,some k=>simp only[qs]at h;exact ih (some k) h hy
  |.inr z,none=>
   simp only[qs,bz,Prod.mk.injEq]at h;obtain⟨rfl,rfl⟩:=h;exact hy
theorem H9(P:Program)(Q:Exit->Act->World->Prop)(a:Act)(w:World):∀(l:List (Nat⊕Code))(e:Option Nat),we l e=true->Q .normal a w->foldI P l Q (yy e) a w:=by
 intro l;induction l with
 |nil=>
  intro e h hq;match e with
  |none=>exact hq
  |some k=>simp[we]at h
 |cons f l ih=>
  intro e h hq;match f,e with
  |.inl n,some k=>
   simp only[we]at h;have:=ih _ h hq;simp only[foldI,sX,yy,Exit.inBlock];split
   ·rename_i hk;rw[if_pos hk]at this;exact this
   rename_i hk;rw[if_neg hk]at this;exact this
  |.inl n,none=>simp only[we]at h;exact ih none h hq
  |.inr z,some k=>simp only[we]at h;exact ih (some k) h hq
  |.inr z,none=>simp[we]at h
def lands(c:Code)(k z:Nat)(y:Code):Prop:=∃r,qs (spine c).reverse (some k)=some (.seq y (.exit z),r)∧we r (some z)=true
def Next(x y:Exit)(p:Prop):Prop:=x=y∧p
theorem nh(k z:Nat)(y:Code)(hl:lands c k z y)
 (hD:(base c).wp P (fun x a' w'=>Next x (.exit k) (y.wp P (fun x a'' w''=>Next x .normal (Q .normal a'' w'')) a' w')) a w):c.wp P Q a w:=by
 obtain⟨r,h1,h2⟩:=hl;refine Gw P c Q a w (wp_mono hD ?_);rintro e a' w'⟨rfl,hy⟩;refine FT P Q a' w' _ r _ (some k) h1 ?_;refine wp_seq (wp_mono hy ?_);rintro e a'' w''⟨rfl,hq⟩;exact wp_exit (H9 P Q a'' w'' r (some z) h2 hq)
theorem oV(k z:Nat)(y:Code)(hl:lands c k z y)
 (hD:∀Q':Exit->Act->World->Prop,Hid (∀a w,Q .normal a w->Q' .normal a w)->(base c).wp P (fun x a' w'=>Next x (.exit k) (y.wp P Q' a' w')) a w):c.wp P Q a w:=
 nh k z y hl (hD _ (fun _ _ h=>⟨rfl,h⟩))
theorem qK{x y:Code}
 (h:x.wp P (fun e a1 w1=>Next e .normal (y.wp P (fun e a2 w2=>Next e .normal (c.wp P Q a2 w2)) a1 w1)) a w):(Code.seq x (Code.seq y c)).wp P Q a w:=by
 refine wp_seq (wp_mono h ?_);rintro e a1 w1⟨rfl,h1⟩;refine wp_seq (wp_mono h1 ?_);rintro e a2 w2⟨rfl,h2⟩;exact h2
attribute [local go_sem↓]Go.wp_at_zero Go.wp_at_succ
theorem step_0(g:Nat)(s:S)(rv:Value)(nx st:Int)(en:Bool)(re jt jf k v:Int)(w:World)(hM:fH w g s rv nx st en re)(hs:s.ok)(hv:isWord v)(hk:isWord k):
 Calls Tryz.prog 73 #[.pointer (some ⟨g,0,none⟩),kD 0 jt jf k,.int .u32 v] w fun e w'=>e=.returned (.tuple #[])∧fH w' g {s with a:=v} rv nx st en re∧w.grownBy w' (some g):=by
 have hlt:=bS hM;have hne:¬w.heap.size=g:=by omega
 have HM:Hid _:=(hM.seta v).alloc (.cells #[.int .u16 0,.int .u8 jt,.int .u8 jf,.int .u32 k] 68);have e0:=hM.c0;have f0:=hM.fz 0;have e1:=hM.c1;have f1:=hM.fz 1;obtain⟨a,x,m⟩:=s;obtain⟨a0,a1⟩:=hs.1;obtain⟨x0,x1⟩:=hs.2.1;obtain⟨v0,v1⟩:=hv;obtain⟨k0,k1⟩:=hk;simp only at e0 e1 a0 a1 x0 x1;clear hM hs;go_enter Tryz.func73,Tryz.ntmps73;refine qK ?_;go_wp2;refine⟨rfl,?_⟩;go_wp2;refine⟨rfl,?_⟩;refine nh 1 0 _ ⟨_,by rfl,by rfl⟩ ?_;conv=>arg 2;whnf
 go_wp2;refine⟨rfl,?_⟩;go_wp2;refine⟨rfl,?_⟩;go_end0;exact⟨rfl,HM.out,jP (nQ (ah _ _) _ _) _⟩
theorem Ie(g:Nat)(s:S)(rv:Value)(nx st:Int)(en:Bool)(re jt jf k v:Int)(w:World)(hM:fH w g s rv nx st en re)(hs:s.ok)(hv:isWord v)(hk:isWord k):
 Calls Tryz.prog 73 #[.pointer (some ⟨g,0,none⟩),kD 32 jt jf k,.int .u32 v] w fun e w'=>e=.returned (.tuple #[])∧fH w' g {s with a:=v} rv nx st en re∧w.grownBy w' (some g):=by
 have hlt:=bS hM;have hne:¬w.heap.size=g:=by omega
 have HM:Hid _:=(hM.seta v).alloc (.cells #[.int .u16 32,.int .u8 jt,.int .u8 jf,.int .u32 k] 68);have e0:=hM.c0;have f0:=hM.fz 0;have e1:=hM.c1;have f1:=hM.fz 1;obtain⟨a,x,m⟩:=s;obtain⟨a0,a1⟩:=hs.1;obtain⟨x0,x1⟩:=hs.2.1;obtain⟨v0,v1⟩:=hv;obtain⟨k0,k1⟩:=hk;simp only at e0 e1 a0 a1 x0 x1;clear hM hs;go_enter Tryz.func73,Tryz.ntmps73;refine qK ?_;go_wp2;refine⟨rfl,?_⟩;go_wp2;refine⟨rfl,?_⟩;refine nh 1 0 _ ⟨_,by rfl,by rfl⟩ ?_;conv=>arg 2;whnf
 go_wp2;refine⟨rfl,?_⟩;go_wp2;refine⟨rfl,?_⟩;go_end0;exact⟨rfl,HM.out,jP (nQ (ah _ _) _ _) _⟩
theorem IE(g:Nat)(s:S)(rv:Value)(nx st:Int)(en:Bool)(re jt jf k v:Int)(w:World)(hM:fH w g s rv nx st en re)(hs:s.ok)(hv:isWord v)(hk:isWord k):
 Calls Tryz.prog 73 #[.pointer (some ⟨g,0,none⟩),kD 84 jt jf k,.int .u32 v] w fun e w'=>e=.returned (.tuple #[])∧fH w' g {s with a:=bits .and .u32 s.a v} rv nx st en re∧w.grownBy w' (some g):=by
 have hlt:=bS hM;have hne:¬w.heap.size=g:=by omega
 have HM:Hid _:=(hM.seta (bits .and .u32 s.a v)).alloc (.cells #[.int .u16 84,.int .u8 jt,.int .u8 jf,.int .u32 k] 68);have e0:=hM.c0;have f0:=hM.fz 0;have e1:=hM.c1;have f1:=hM.fz 1;obtain⟨a,x,m⟩:=s;obtain⟨a0,a1⟩:=hs.1;obtain⟨x0,x1⟩:=hs.2.1;obtain⟨v0,v1⟩:=hv;obtain⟨k0,k1⟩:=hk;simp only at e0 e1 a0 a1 x0 x1;clear hM hs;go_enter Tryz.func73,Tryz.ntmps73;refine qK ?_;go_wp2;refine⟨rfl,?_⟩;go_wp2;refine⟨rfl,?_⟩;refine nh 10 0 _ ⟨_,by rfl,by rfl⟩ ?_;conv=>arg 2;whnf
 go_wp2;refine⟨rfl,?_⟩;go_wp2;refine⟨rfl,?_⟩;go_end0;exact⟨rfl,HM.out,jP (nQ (ah _ _) _ _) _⟩
attribute [local go_sem↓]Go.wp_at_zero Go.wp_at_succ
theorem step_100s(g:Nat)(s:S)(rv:Value)(nx st:Int)(en:Bool)(re jt jf k v:Int)(w:World)(hM:fH w g s rv nx st en re)(hs:s.ok)(hv:isWord v)(hk:isWord k)(hv32:v<32):
 Calls Tryz.prog 73 #[.pointer (some ⟨g,0,none⟩),kD 100 jt jf k,.int .u32 v] w fun e w'=>e=.returned (.tuple #[])∧fH w' g {s with a:=s.a*2^v.toNat%4294967296} rv nx st en re∧w.grownBy w' (some g):=by
 have hlt:=bS hM;have hne:¬w.heap.size=g:=by omega
 have HM:Hid _:=(hM.seta (s.a*2^v.toNat%4294967296)).alloc (.cells #[.int .u16 100,.int .u8 jt,.int .u8 jf,.int .u32 k] 68);have e0:=hM.c0;have f0:=hM.fz 0;have e1:=hM.c1;have f1:=hM.fz 1;obtain⟨a,x,m⟩:=s;obtain⟨a0,a1⟩:=hs.1;obtain⟨x0,x1⟩:=hs.2.1;obtain⟨v0,v1⟩:=hv;obtain⟨k0,k1⟩:=hk;simp only at e0 e1 a0 a1 x0 x1;clear hM hs;go_enter Tryz.func73,Tryz.ntmps73;refine qK ?_;go_wp2;refine⟨rfl,?_⟩;go_wp2;refine⟨rfl,?_⟩;refine nh 12 0 _ ⟨_,by rfl,by rfl⟩ ?_;conv=>arg 2;whnf
 go_wp2;refine⟨rfl,?_⟩;go_wp2;refine⟨rfl,?_⟩;go_end0;exact⟨rfl,HM.out,jP (nQ (ah _ _) _ _) _⟩
theorem step_132(g:Nat)(s:S)(rv:Value)(nx st:Int)(en:Bool)(re jt jf k v:Int)(w:World)(hM:fH w g s rv nx st en re)(hs:s.ok)(hv:isWord v)(hk:isWord k):
 Calls Tryz.prog 73 #[.pointer (some ⟨g,0,none⟩),kD 132 jt jf k,.int .u32 v] w fun e w'=>e=.returned (.tuple #[])∧fH w' g {s with a:= -s.a%4294967296} rv nx st en re∧w.grownBy w' (some g):=by
 have hlt:=bS hM;have hne:¬w.heap.size=g:=by omega
 have HM:Hid _:=(hM.seta (-s.a%4294967296)).alloc (.cells #[.int .u16 132,.int .u8 jt,.int .u8 jf,.int .u32 k] 68);have e0:=hM.c0;have f0:=hM.fz 0;have e1:=hM.c1;have f1:=hM.fz 1;obtain⟨a,x,m⟩:=s;obtain⟨a0,a1⟩:=hs.1;obtain⟨x0,x1⟩:=hs.2.1;obtain⟨v0,v1⟩:=hv;obtain⟨k0,k1⟩:=hk;simp only at e0 e1 a0 a1 x0 x1;clear hM hs;go_enter Tryz.func73,Tryz.ntmps73;refine qK ?_;go_wp2;refine⟨rfl,?_⟩;go_wp2;refine⟨rfl,?_⟩;refine nh 14 0 _ ⟨_,by rfl,by rfl⟩ ?_;conv=>arg 2;whnf
 go_wp2;refine⟨rfl,?_⟩;go_wp2;refine⟨rfl,?_⟩;go_end0;exact⟨rfl,HM.out,jP (nQ (ah _ _) _ _) _⟩
theorem step_5(g:Nat)(s:S)(rv:Value)(nx st:Int)(en:Bool)(re jt jf k v:Int)(w:World)(hM:fH w g s rv nx st en re)(hs:s.ok)(hv:isWord v)(hk:isWord k)(hn0:0<=nx)(hn1:nx<=1000000):
 Calls Tryz.prog 73 #[.pointer (some ⟨g,0,none⟩),kD 5 jt jf k,.int .u32 v] w fun e w'=>e=.returned (.tuple #[])∧fH w' g s rv (nx+k) st en re∧w.grownBy w' (some g):=by
 have hlt:=bS hM;have hne:¬w.heap.size=g:=by omega
 have HM:Hid _:=((hM.setn (nx+k)).alloc (.cells #[.int .u16 5,.int .u8 jt,.int .u8 jf,.int .u32 k] 68)).drew;have en':=hM.cn;have fn':=hM.fz 19;have e0:=hM.c0;have f0:=hM.fz 0;have e1:=hM.c1;have f1:=hM.fz 1;obtain⟨a,x,m⟩:=s;obtain⟨a0,a1⟩:=hs.1;obtain⟨x0,x1⟩:=hs.2.1;obtain⟨v0,v1⟩:=hv;obtain⟨k0,k1⟩:=hk;simp only at e0 e1 a0 a1 x0 x1;clear hM hs;go_enter Tryz.func73,Tryz.ntmps73;refine qK ?_;go_wp2;refine⟨rfl,?_⟩;go_wp2;refine⟨rfl,?_⟩;refine nh 17 0 _ ⟨_,by rfl,by rfl⟩ ?_;conv=>arg 2;whnf
 go_wp2;refine⟨rfl,?_⟩;go_region;all_goals
  refine⟨rfl,?_⟩;go_end0;exact⟨rfl,HM.out,nY (jP (nQ (ah _ _) _ _) _)⟩
theorem step_6(g:Nat)(s:S)(rv:Value)(nx st:Int)(en:Bool)(re jt jf k v:Int)(w:World)(hM:fH w g s rv nx st en re)(hs:s.ok)(hv:isWord v)(hk:isWord k):
 Calls Tryz.prog 73 #[.pointer (some ⟨g,0,none⟩),kD 6 jt jf k,.int .u32 v] w fun e w'=>e=.returned (.tuple #[])∧fH w' g s rv nx st true k∧w.grownBy w' (some g):=by
 have hlt:=bS hM;have hne:¬w.heap.size=g:=by omega
 have HM:Hid (fH (w.alloc (.cells #[.int .u16 6,.int .u8 jt,.int .u8 jf,.int .u32 k] 68)) g s rv nx st en re):=hM.alloc _;have e0:=hM.c0;have f0:=hM.fz 0;have e1:=hM.c1;have f1:=hM.fz 1;obtain⟨a0,a1⟩:=hs.1;obtain⟨x0,x1⟩:=hs.2.1;obtain⟨v0,v1⟩:=hv;obtain⟨k0,k1⟩:=hk;skip;clear hM hs;go_enter Tryz.func73,Tryz.ntmps73;refine qK ?_;go_wp2;refine⟨rfl,?_⟩;go_wp2;refine⟨rfl,?_⟩;refine nh 26 0 _ ⟨_,by rfl,by rfl⟩ ?_;conv=>arg 2;whnf
 go_wp2;refine⟨rfl,?_⟩;go_wp2_with fail;refine(Hp g s rv nx st en re k _ HM.out).mono ?_;rintro e w'⟨rfl,hM',hG⟩;go_wp2;refine⟨rfl,?_⟩;go_end0;exact⟨rfl,hM',nc (jP (ah _ _) _) hG⟩
attribute [local go_sem↓]Go.wp_at_zero Go.wp_at_succ
def rR(h:Bool)(a b:Int):Int:=if h then a else b
theorem IP(g:Nat)(s:S)(rv:Value)(nx st:Int)(en:Bool)(re jt jf k v:Int)(w:World)(hM:fH w g s rv nx st en re)(hs:s.ok)(hv:isWord v)(hk:isWord k)(hn0:0<=nx)(hn1:nx<=1000000)(j0:0<=jt∧jt<=255)(j1:0<=jf∧jf<=255):
 Calls Tryz.prog 73 #[.pointer (some ⟨g,0,none⟩),kD 21 jt jf k,.int .u32 v] w fun e w'=>e=.returned (.tuple #[])∧fH w' g s rv (nx+rR (s.a==v) jt jf) st en re∧w.grownBy w' (some g):=by
 have hlt:=bS hM
 have hne:¬w.heap.size=g:=by omega
 have HM:Hid (fH (w.alloc (.cells #[.int .u16 21,.int .u8 jt,.int .u8 jf,.int .u32 k] 68)).drew g s rv nx st en re):=(hM.alloc _).drew
 have HC:Hid (∀h,Calls Tryz.prog 112 #[.pointer (some ⟨g,0,none⟩),kD 21 jt jf k,.bool h] (w.alloc (.cells #[.int .u16 21,.int .u8 jt,.int .u8 jf,.int .u32 k] 68)).drew fun e w'=>e=.returned (.tuple #[])∧fH w' g s rv (nx+rR h jt jf) st en re∧(w.alloc (.cells #[.int .u16 21,.int .u8 jt,.int .u8 jf,.int .u32 k] 68)).drew.grownBy w' (some g)):=fun h=>oG g s rv nx st en re 21 jt jf k h _ HM.out hn0 hn1 j0 j1
 have e0:=hM.c0
 have f0:=hM.fz 0
 have e1:=hM.c1
 have f1:=hM.fz 1
 have b0:(w.alloc (.cells #[.int .u16 21,.int .u8 jt,.int .u8 jf,.int .u32 k] 68)).drew.cell? ⟨w.heap.size,0,none⟩=some (.int .u16 21):=by rw[bU,bB _ _ _ _ rfl];rfl
 have b1:(w.alloc (.cells #[.int .u16 21,.int .u8 jt,.int .u8 jf,.int .u32 k] 68)).drew.cell? ⟨w.heap.size,1,none⟩=some (.int .u8 jt):=by rw[bU,bB _ _ _ _ rfl];rfl
 have b2:(w.alloc (.cells #[.int .u16 21,.int .u8 jt,.int .u8 jf,.int .u32 k] 68)).drew.cell? ⟨w.heap.size,2,none⟩=some (.int .u8 jf):=by rw[bU,bB _ _ _ _ rfl];rfl
 have b3:(w.alloc (.cells #[.int .u16 21,.int .u8 jt,.int .u8 jf,.int .u32 k] 68)).drew.cell? ⟨w.heap.size,3,none⟩=some (.int .u32 k):=by rw[bU,bB _ _ _ _ rfl];rfl
 have hne2:some w.heap.size≠some g:=by simp[hne]
 have HB:Hid _:=And.intro b0 (And.intro b1 (And.intro b2 b3))
 obtain⟨a0,a1⟩:=hs.1
 obtain⟨v0,v1⟩:=hv
 have HA:Hid (∀wx nx' st' en' re',fH wx g s rv nx' st' en' re'->wx.cell? ⟨g,0,none⟩=some (.int .u32 s.a)):=fun wx _ _ _ _ h=>h.c0
 clear hM hs HM b0 b1 b2 b3
 generalize s.a=a at*
 go_enter Tryz.func73,Tryz.ntmps73
 refine qK ?_
 go_wp2
 refine⟨rfl,?_⟩
 go_wp2
 refine⟨rfl,?_⟩
 refine oV 18 0 _ ⟨_,by rfl,by rfl⟩ (fun Q' HQ=> ?_)
 conv=>arg 2;whnf
 go_wp2
 refine⟨rfl,?_⟩
 go_region_held3(fun w'=>w'.cell? ⟨w.heap.size,0,none⟩=some (.int .u16 21)∧w'.cell? ⟨w.heap.size,1,none⟩=some (.int .u8 jt)∧w'.cell? ⟨w.heap.size,2,none⟩=some (.int .u8 jf)∧w'.cell? ⟨w.heap.size,3,none⟩=some (.int .u32 k)∧w'.cell? ⟨g,0,none⟩=some (.int .u32 a))
  (first|go_keep|exact⟨z0,z1,z2,z3,z4⟩)
  ((go_at_call 112;refine(HC.out _).mono ?_;rintro e w'⟨rfl,hM',hG⟩;have z0:=hG.cell HB.out.1 hne2;have z1:=hG.cell HB.out.2.1 hne2;have z2:=hG.cell HB.out.2.2.1 hne2;have z3:=hG.cell HB.out.2.2.2 hne2;have z4:=HA.out _ _ _ _ _ hM'))
 refine HQ.out _ _ ?_
 go_end0
 exact⟨rfl,by assumption,nc (nY (jP (ah _ _) _)) (by assumption)⟩
theorem IL(g:Nat)(s:S)(rv:Value)(nx st:Int)(en:Bool)(re jt jf k v:Int)(w:World)(hM:fH w g s rv nx st en re)(hs:s.ok)(hv:isWord v)(hk:isWord k)(hn0:0<=nx)(hn1:nx<=1000000)(j0:0<=jt∧jt<=255)(j1:0<=jf∧jf<=255):
 Calls Tryz.prog 73 #[.pointer (some ⟨g,0,none⟩),kD 37 jt jf k,.int .u32 v] w fun e w'=>e=.returned (.tuple #[])∧fH w' g s rv (nx+rR (decide (v<s.a)) jt jf) st en re∧w.grownBy w' (some g):=by
 have hlt:=bS hM
 have hne:¬w.heap.size=g:=by omega
 have HM:Hid (fH (w.alloc (.cells #[.int .u16 37,.int .u8 jt,.int .u8 jf,.int .u32 k] 68)).drew g s rv nx st en re):=(hM.alloc _).drew
 have HC:Hid (∀h,Calls Tryz.prog 112 #[.pointer (some ⟨g,0,none⟩),kD 37 jt jf k,.bool h] (w.alloc (.cells #[.int .u16 37,.int .u8 jt,.int .u8 jf,.int .u32 k] 68)).drew fun e w'=>e=.returned (.tuple #[])∧fH w' g s rv (nx+rR h jt jf) st en re∧(w.alloc (.cells #[.int .u16 37,.int .u8 jt,.int .u8 jf,.int .u32 k] 68)).drew.grownBy w' (some g)):=fun h=>oG g s rv nx st en re 37 jt jf k h _ HM.out hn0 hn1 j0 j1
 have e0:=hM.c0
 have f0:=hM.fz 0
 have e1:=hM.c1
 have f1:=hM.fz 1
 have b0:(w.alloc (.cells #[.int .u16 37,.int .u8 jt,.int .u8 jf,.int .u32 k] 68)).drew.cell? ⟨w.heap.size,0,none⟩=some (.int .u16 37):=by rw[bU,bB _ _ _ _ rfl];rfl
 have b1:(w.alloc (.cells #[.int .u16 37,.int .u8 jt,.int .u8 jf,.int .u32 k] 68)).drew.cell? ⟨w.heap.size,1,none⟩=some (.int .u8 jt):=by rw[bU,bB _ _ _ _ rfl];rfl
 have b2:(w.alloc (.cells #[.int .u16 37,.int .u8 jt,.int .u8 jf,.int .u32 k] 68)).drew.cell? ⟨w.heap.size,2,none⟩=some (.int .u8 jf):=by rw[bU,bB _ _ _ _ rfl];rfl
 have b3:(w.alloc (.cells #[.int .u16 37,.int .u8 jt,.int .u8 jf,.int .u32 k] 68)).drew.cell? ⟨w.heap.size,3,none⟩=some (.int .u32 k):=by rw[bU,bB _ _ _ _ rfl];rfl
 have hne2:some w.heap.size≠some g:=by simp[hne]
 have HB:Hid _:=And.intro b0 (And.intro b1 (And.intro b2 b3))
 obtain⟨a0,a1⟩:=hs.1
 obtain⟨v0,v1⟩:=hv
 have HA:Hid (∀wx nx' st' en' re',fH wx g s rv nx' st' en' re'->wx.cell? ⟨g,0,none⟩=some (.int .u32 s.a)):=fun wx _ _ _ _ h=>h.c0
 clear hM hs HM b0 b1 b2 b3
 generalize s.a=a at*
 go_enter Tryz.func73,Tryz.ntmps73
 refine qK ?_
 go_wp2
 refine⟨rfl,?_⟩
 go_wp2
 refine⟨rfl,?_⟩
 refine oV 20 0 _ ⟨_,by rfl,by rfl⟩ (fun Q' HQ=> ?_)
 conv=>arg 2;whnf
 go_wp2
 refine⟨rfl,?_⟩
 go_region_held3(fun w'=>w'.cell? ⟨w.heap.size,0,none⟩=some (.int .u16 37)∧w'.cell? ⟨w.heap.size,1,none⟩=some (.int .u8 jt)∧w'.cell? ⟨w.heap.size,2,none⟩=some (.int .u8 jf)∧w'.cell? ⟨w.heap.size,3,none⟩=some (.int .u32 k)∧w'.cell? ⟨g,0,none⟩=some (.int .u32 a))
  (first|go_keep|exact⟨z0,z1,z2,z3,z4⟩)
  ((go_at_call 112;refine(HC.out _).mono ?_;rintro e w'⟨rfl,hM',hG⟩;have z0:=hG.cell HB.out.1 hne2;have z1:=hG.cell HB.out.2.1 hne2;have z2:=hG.cell HB.out.2.2.1 hne2;have z3:=hG.cell HB.out.2.2.2 hne2;have z4:=HA.out _ _ _ _ _ hM'))
 refine HQ.out _ _ ?_
 go_end0
 exact⟨rfl,by assumption,nc (nY (jP (ah _ _) _)) (by assumption)⟩
theorem IC(g:Nat)(s:S)(rv:Value)(nx st:Int)(en:Bool)(re jt jf k v:Int)(w:World)(hM:fH w g s rv nx st en re)(hs:s.ok)(hv:isWord v)(hk:isWord k)(hn0:0<=nx)(hn1:nx<=1000000)(j0:0<=jt∧jt<=255)(j1:0<=jf∧jf<=255):
 Calls Tryz.prog 73 #[.pointer (some ⟨g,0,none⟩),kD 53 jt jf k,.int .u32 v] w fun e w'=>e=.returned (.tuple #[])∧fH w' g s rv (nx+rR (decide (v<=s.a)) jt jf) st en re∧w.grownBy w' (some g):=by
 have hlt:=bS hM
 have hne:¬w.heap.size=g:=by omega
 have HM:Hid (fH (w.alloc (.cells #[.int .u16 53,.int .u8 jt,.int .u8 jf,.int .u32 k] 68)).drew g s rv nx st en re):=(hM.alloc _).drew
 have HC:Hid (∀h,Calls Tryz.prog 112 #[.pointer (some ⟨g,0,none⟩),kD 53 jt jf k,.bool h] (w.alloc (.cells #[.int .u16 53,.int .u8 jt,.int .u8 jf,.int .u32 k] 68)).drew fun e w'=>e=.returned (.tuple #[])∧fH w' g s rv (nx+rR h jt jf) st en re∧(w.alloc (.cells #[.int .u16 53,.int .u8 jt,.int .u8 jf,.int .u32 k] 68)).drew.grownBy w' (some g)):=fun h=>oG g s rv nx st en re 53 jt jf k h _ HM.out hn0 hn1 j0 j1
 have e0:=hM.c0
 have f0:=hM.fz 0
 have e1:=hM.c1
 have f1:=hM.fz 1
 have b0:(w.alloc (.cells #[.int .u16 53,.int .u8 jt,.int .u8 jf,.int .u32 k] 68)).drew.cell? ⟨w.heap.size,0,none⟩=some (.int .u16 53):=by rw[bU,bB _ _ _ _ rfl];rfl
 have b1:(w.alloc (.cells #[.int .u16 53,.int .u8 jt,.int .u8 jf,.int .u32 k] 68)).drew.cell? ⟨w.heap.size,1,none⟩=some (.int .u8 jt):=by rw[bU,bB _ _ _ _ rfl];rfl
 have b2:(w.alloc (.cells #[.int .u16 53,.int .u8 jt,.int .u8 jf,.int .u32 k] 68)).drew.cell? ⟨w.heap.size,2,none⟩=some (.int .u8 jf):=by rw[bU,bB _ _ _ _ rfl];rfl
 have b3:(w.alloc (.cells #[.int .u16 53,.int .u8 jt,.int .u8 jf,.int .u32 k] 68)).drew.cell? ⟨w.heap.size,3,none⟩=some (.int .u32 k):=by rw[bU,bB _ _ _ _ rfl];rfl
 have hne2:some w.heap.size≠some g:=by simp[hne]
 have HB:Hid _:=And.intro b0 (And.intro b1 (And.intro b2 b3))
 obtain⟨a0,a1⟩:=hs.1
 obtain⟨v0,v1⟩:=hv
 have HA:Hid (∀wx nx' st' en' re',fH wx g s rv nx' st' en' re'->wx.cell? ⟨g,0,none⟩=some (.int .u32 s.a)):=fun wx _ _ _ _ h=>h.c0
 clear hM hs HM b0 b1 b2 b3
 generalize s.a=a at*
 go_enter Tryz.func73,Tryz.ntmps73
 refine qK ?_
 go_wp2
 refine⟨rfl,?_⟩
 go_wp2
 refine⟨rfl,?_⟩
 refine oV 22 0 _ ⟨_,by rfl,by rfl⟩ (fun Q' HQ=> ?_)
 conv=>arg 2;whnf
 go_wp2
 refine⟨rfl,?_⟩
 go_region_held3(fun w'=>w'.cell? ⟨w.heap.size,0,none⟩=some (.int .u16 53)∧w'.cell? ⟨w.heap.size,1,none⟩=some (.int .u8 jt)∧w'.cell? ⟨w.heap.size,2,none⟩=some (.int .u8 jf)∧w'.cell? ⟨w.heap.size,3,none⟩=some (.int .u32 k)∧w'.cell? ⟨g,0,none⟩=some (.int .u32 a))
  (first|go_keep|exact⟨z0,z1,z2,z3,z4⟩)
  ((go_at_call 112;refine(HC.out _).mono ?_;rintro e w'⟨rfl,hM',hG⟩;have z0:=hG.cell HB.out.1 hne2;have z1:=hG.cell HB.out.2.1 hne2;have z2:=hG.cell HB.out.2.2.1 hne2;have z3:=hG.cell HB.out.2.2.2 hne2;have z4:=HA.out _ _ _ _ _ hM'))
 refine HQ.out _ _ ?_
 go_end0
 exact⟨rfl,by assumption,nc (nY (jP (ah _ _) _)) (by assumption)⟩
def kA(w':World)(g:Nat)(r:List Int)(i:I)(s:S)(rv:Value)(nx st re:Int):Prop:=
 match gV i s with
 |some v=>fH w' g s rv nx st true v
 |none=>fH w' g (iH r i s) rv (nx+(gB i s:Nat)) st false re
theorem kA.none{w':World}{g:Nat}{r:List Int}{i:I}{s s1:S}{rv:Value}{nx nx1 st re:Int}(h:gV i s=none)(hs:iH r i s=s1)(hn:nx+(gB i s:Nat)=nx1)(hM:fH w' g s1 rv nx1 st false re):kA w' g r i s rv nx st re:=by
 unfold kA;rw[h];simp only;rw[hs,hn];exact hM
theorem kA.some{w':World}{g:Nat}{r:List Int}{i:I}{s:S}{rv:Value}{nx st re v:Int}(h:gV i s=some v)(hM:fH w' g s rv nx st true v):kA w' g r i s rv nx st re:=by
 unfold kA;rw[h];exact hM
def nJ(c:Int):Prop:=∀(g n:Nat)(s:S)(rv:Value)(nx st re jt jf k:Int)(r:List Int)(w:World),fH w g s rv nx st false re->s.ok->eV r->I.ok ⟨c,jt,jf,k⟩->GA ⟨c,jt,jf,k⟩ n->0<=nx->nx<=1000000->
 Calls Tryz.prog 73 #[.pointer (some ⟨g,0,none⟩),kD c jt jf k,.int .u32 (opI r ⟨c,jt,jf,k⟩ s)] w fun e w'=>e=.returned (.tuple #[])∧kA w' g r ⟨c,jt,jf,k⟩ s rv nx st re∧w.grownBy w' (some g)
theorem mf{r:List Int}{i:I}{s:S}(hr:eV r)(hi:i.ok)(hs:s.ok):isWord (opI r i s):=by
 unfold opI;split
 ·exact uU hr _
 split
 ·exact hs.2.2 _
 exact zd hi hs
theorem ok_32:nJ 32:=by
 intro g n s rv nx st re jt jf k r w hM hs hr hi hh hn0 hn1;have hv:=mf (r:=r) hr hi hs;have hk:isWord k:=⟨hi.2.2.2.2.2.2.1,hi.2.2.2.2.2.2.2⟩;refine(Ie g s rv nx st false re jt jf k _ w hM hs hv hk).mono ?_;rintro e w'⟨rfl,hM',hG⟩;refine⟨rfl,kA.none (by simp[gV]) (by simp[iH,pf,opI]) (by simp[gB,ke]) hM',hG⟩
theorem ok_84:nJ 84:=by
 intro g n s rv nx st re jt jf k r w hM hs hr hi hh hn0 hn1;have hv:=mf (r:=r) hr hi hs;have hk:isWord k:=⟨hi.2.2.2.2.2.2.1,hi.2.2.2.2.2.2.2⟩;refine(IE g s rv nx st false re jt jf k _ w hM hs hv hk).mono ?_;rintro e w'⟨rfl,hM',hG⟩;refine⟨rfl,kA.none (by simp[gV]) (by have e:=and_eq hs.1 hv;simp only[iH,pf,opI,opV,aluL]at e⊢;simp at e⊢;exact e) (by simp[gB,ke]) hM',hG⟩
theorem ok_6:nJ 6:=by
 intro g n s rv nx st re jt jf k r w hM hs hr hi hh hn0 hn1;have hv:=mf (r:=r) hr hi hs;have hk:isWord k:=⟨hi.2.2.2.2.2.2.1,hi.2.2.2.2.2.2.2⟩;refine(step_6 g s rv nx st false re jt jf k _ w hM hs hv hk).mono ?_;rintro e w'⟨rfl,hM',hG⟩;exact⟨rfl,kA.some (by simp[gV]) hM',hG⟩
theorem ok_5:nJ 5:=by
 intro g n s rv nx st re jt jf k r w hM hs hr hi hh hn0 hn1;have hv:=mf (r:=r) hr hi hs;have hk:isWord k:=⟨hi.2.2.2.2.2.2.1,hi.2.2.2.2.2.2.2⟩;refine(step_5 g s rv nx st false re jt jf k _ w hM hs hv hk hn0 hn1).mono ?_;rintro e w'⟨rfl,hM',hG⟩;exact⟨rfl,kA.none (by simp[gV]) (by simp[iH,pf]) (by have:=hk.1;simp[gB];omega) hM',hG⟩
theorem ok_21:nJ 21:=by
 intro g n s rv nx st re jt jf k r w hM hs hr hi hh hn0 hn1;have hv:=mf (r:=r) hr hi hs;have hk:isWord k:=⟨hi.2.2.2.2.2.2.1,hi.2.2.2.2.2.2.2⟩;refine(IP g s rv nx st false re jt jf k _ w hM hs hv hk hn0 hn1 ⟨hi.2.2.1,hi.2.2.2.1⟩ ⟨hi.2.2.2.2.1,hi.2.2.2.2.2.1⟩).mono ?_;rintro e w'⟨rfl,hM',hG⟩;refine⟨rfl,kA.none (by simp[gV]) (by simp[iH,pf]) ?_ hM',hG⟩;have q1:0<=jt:=hi.2.2.1;have q2:0<=jf:=hi.2.2.2.2.1;simp[gB,ke,ij,opI,opV,rR];split<;>omega
theorem ok_37:nJ 37:=by
 intro g n s rv nx st re jt jf k r w hM hs hr hi hh hn0 hn1;have hv:=mf (r:=r) hr hi hs;have hk:isWord k:=⟨hi.2.2.2.2.2.2.1,hi.2.2.2.2.2.2.2⟩;refine(IL g s rv nx st false re jt jf k _ w hM hs hv hk hn0 hn1 ⟨hi.2.2.1,hi.2.2.2.1⟩ ⟨hi.2.2.2.2.1,hi.2.2.2.2.2.1⟩).mono ?_;rintro e w'⟨rfl,hM',hG⟩;refine⟨rfl,kA.none (by simp[gV]) (by simp[iH,pf]) ?_ hM',hG⟩;have q1:0<=jt:=hi.2.2.1;have q2:0<=jf:=hi.2.2.2.2.1;simp[gB,ke,ij,opI,opV,rR];split<;>omega
theorem ok_53:nJ 53:=by
 intro g n s rv nx st re jt jf k r w hM hs hr hi hh hn0 hn1;have hv:=mf (r:=r) hr hi hs;have hk:isWord k:=⟨hi.2.2.2.2.2.2.1,hi.2.2.2.2.2.2.2⟩;refine(IC g s rv nx st false re jt jf k _ w hM hs hv hk hn0 hn1 ⟨hi.2.2.1,hi.2.2.2.1⟩ ⟨hi.2.2.2.2.1,hi.2.2.2.2.2.1⟩).mono ?_;rintro e w'⟨rfl,hM',hG⟩;refine⟨rfl,kA.none (by simp[gV]) (by simp[iH,pf]) ?_ hM',hG⟩;have q1:0<=jt:=hi.2.2.1;have q2:0<=jf:=hi.2.2.2.2.1;simp[gB,ke,ij,opI,opV,rR];split<;>omega
end Go.Proofs.YtdihdapmphkhpaaGreat
