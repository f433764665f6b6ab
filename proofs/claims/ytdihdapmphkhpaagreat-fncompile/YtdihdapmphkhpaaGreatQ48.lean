import Derived.Deep.LoopGhost
import Derived.Deep.MidRow
import Derived.Test.YtdihdapmphkhpaaGreatQ47
set_option linter.all false
set_option maxRecDepth 200000
set_option maxHeartbeats 16000000
namespace Go.Proofs.YtdihdapmphkhpaaGreat
open Go.RowKit
variable{j:Nat}{p:List I}{s:S}
attribute [local go_sem↓]Go.wp_at_zero Go.wp_at_succ
theorem DP(r:List Int)(N:Nat):∀(M:Nat)(q:List I)(s:S),q.length<=N->q.length<=M->kv r N q s=kv r M q s:=by
 induction N with
 |zero=>
  intro M q s h1 h2;have:q=[]:=aM (by omega);subst this
  cases M<;>rfl
 |succ N ih=>
  intro M q s h1 h2;match q,M with
  |[],0=>rfl
  |[],M+1=>rfl
  |i::t,0=>simp at h2
  |i::t,M+1=>
   cases h:gV i s with
   |some v=>rw[xE h,xE h]
   |none=>
    have e:=ih M (t.drop (gB i s)) (iH r i s) (by rw[bK];simp at h1;omega) (by rw[bK];simp at h2;omega);rw[vk h,vk h,e]
def Come(p:List I)(r:List Int)(RES STEPS:Int)(k:Nat)(s:S)(nx st:Int)(en:Bool)(re:Int):Prop:=
 (en=true∧re=RES∧st=STEPS∧k=0)∨
 (en=false∧∃j:Nat,nx=j∧j<p.length∧k=p.length-j∧0<=st∧st<=j∧s.ok∧(kv r (p.length-j) (p.drop j) s).1=RES∧st+(kv r (p.length-j) (p.drop j) s).2=STEPS)
theorem qh(h:j<p.length):p.drop j=p.getD j I.zero::p.drop (j+1):=by
 rw[cw h,aa,ag h];rfl
theorem Dl(hv:lk p)(h:j<p.length)(he:gV (p.getD j I.zero) s=none):j+1+gB (p.getD j I.zero) s<p.length:=by
 have hq:=hv.drop h;rw[qh h]at hq;have hh:=hq.head;have hi:(p.getD j I.zero).ok:=hq.2.2.2 _ (by simp);have hl:(p.drop (j+1)).length=p.length-(j+1):=bK ..;generalize p.getD j I.zero=i at*;have h6:i.c≠6:=fun e=>by simp[gV,e]at he
 have h22:i.c≠22:=fun e=>by simp[gV,e]at he
 have h1:(p.drop (j+1)).length+1≠1:=fun e=>(hh.last e).elim h6 h22
 unfold gB;split
 ·rename_i e;have:=hh.jump e;have:=hi.2.2.2.2.2.2.1;omega
 split
 ·rename_i e;have:=hh.test e;have q1:=hi.2.2.1;have q2:=hi.2.2.2.2.1;split<;>omega
 omega
theorem Fm{r:List Int}{RES STEPS:Int}{k:Nat}{st:Int}{v re':Int}(hj:j<p.length)(he:gV (p.getD j I.zero) s=some v)
 (h1:(kv r (p.length-j) (p.drop j) s).1=RES)(h2:st+(kv r (p.length-j) (p.drop j) s).2=STEPS)(nx:Int)(s':S):Come p r RES STEPS 0 s' nx (st+1) true v:=by
 rw[qh hj,show p.length-j=(p.length-(j+1))+1 by omega,xE he]at h1 h2;exact .inl ⟨rfl,h1,h2,rfl⟩
theorem EN{r:List Int}{RES STEPS:Int}{st:Int}(hr:eV r)(hv:lk p)(hj:j<p.length)(hs:s.ok)(h0:0<=st)(hst:st<=j)(he:gV (p.getD j I.zero) s=none)
 (h1:(kv r (p.length-j) (p.drop j) s).1=RES)(h2:st+(kv r (p.length-j) (p.drop j) s).2=STEPS)(re:Int):
 Come p r RES STEPS (p.length-(j+1+gB (p.getD j I.zero) s)) (iH r (p.getD j I.zero) s) ((j:Int)+1+(gB (p.getD j I.zero) s:Nat)) (st+1) false re:=by
 have hlt:=Dl hv hj he
 have hi:(p.getD j I.zero).ok:=hv.2.2.2 _ (by rw[aa,ag hj];exact aI hj)
 rw[qh hj,show p.length-j=(p.length-(j+1))+1 by omega,vk he]at h1 h2
 have ed:(p.drop (j+1)).drop (gB (p.getD j I.zero) s)=p.drop (j+1+gB (p.getD j I.zero) s):=by rw[List.drop_drop]
 have ef:=DP r (p.length-(j+1)) (p.length-(j+1+gB (p.getD j I.zero) s)) (p.drop (j+1+gB (p.getD j I.zero) s)) (iH r (p.getD j I.zero) s) (by rw[bK];omega) (by rw[bK];omega)
 rw[ed,ef]at h1 h2
 simp only at h1 h2
 refine .inr ⟨rfl,j+1+gB (p.getD j I.zero) s,by omega,hlt,rfl,by omega,by omega,Fx hr hi hs,h1,by omega⟩
abbrev tripV(a b c:Int):Value:=.tuple #[.int .u32 a,.int .i64 b,.int .i64 c]
attribute [local go_sem↓]Go.wp_at_zero Go.wp_at_succ
theorem vO{t n:Nat}(b:Nat):∀(vs:List Value)(o:Nat)(w:World)(f:Nat->Value),w.rowIs b t n f->(w.setCells b o vs).rowIs b t n (fun j=>if o<=j∧j<o+vs.length then vs.getD (j-o) undef else f j):=by
 intro vs;induction vs with
 |nil=>
  intro o w f h;exact h.congr (fun i hi=>by simp;intro h1 h2;omega)
 |cons v vs ih=>
  intro o w f h;have h1:=ih (o+1) (w.setCell ⟨b,o,none⟩ v) _ (h.set o v);refine World.rowIs.congr (f:=_) h1 (fun i hi=> ?_);show(if o+1<=i∧i<o+1+vs.length then vs.getD (i-(o+1)) undef else if i=o then v else f i)=if o<=i∧i<o+(v::vs).length then(v::vs).getD (i-o) undef else f i
  by_cases e:i=o
  ·subst e;rw[if_neg (by omega),if_pos rfl,if_pos ⟨ae _,by simp only[aq];omega⟩,du];rfl
  by_cases h2:o+1<=i∧i<o+1+vs.length
  ·rw[if_pos h2,if_pos (by simp only[aq];omega)];rw[show i-o=(i-(o+1))+1 by omega,List.getD_cons_succ]
  rw[if_neg h2,if_neg e,if_neg (by simp only[aq];omega)]
def xC(rv:Value):List Value:=List.replicate 18 (.int .u32 0)++[rv,.int .i64 0,.int .i64 0,.bool false,.int .u32 0]
theorem FC(rv:Value):∀i,i<23->(xC rv).getD i undef=rz jU rv 0 0 false 0 i:=by
 intro i hi
 unfold rz xC
 by_cases h:i<18
 ·rw[aa,aD (by simp only[List.length_replicate];exact h),List.getElem?_replicate,if_pos h]
  repeat' split
  all_goals first|rfl|omega
 ·have:i=18∨i=19∨i=20∨i=21∨i=22:=by omega
  rcases this with rfl|rfl|rfl|rfl|rfl<;>rfl
theorem CB{w:World}{zs:Array Value}{rv:Value}(hz:zs.size=23):fH ((w.alloc (.cells zs 72)).setCells w.heap.size 0 (xC rv)) w.heap.size jU rv 0 0 false 0:=by
 have h0:=dn w zs 72 (fun i=>zs.getD i undef) (fun i hi=>by simp[hi]);rw[hz]at h0;refine(vO w.heap.size (xC rv) 0 _ _ h0).congr (fun i hi=> ?_);rw[if_pos (by simp[xC];omega),dY];exact FC rv i hi
theorem uS{w:World}{B D:Nat}:∀(vs:List Value)(o:Nat){w1:World},Below B w w1->B<=D->Below B w (w1.setCells D o vs):=by
 intro vs;induction vs with
 |nil=>intro o w1 h _;exact h
 |cons v vs ih=>intro o w1 h hB;exact ih (o+1) (h.setCell (p:=⟨D,o,none⟩) hB v) hB
theorem Eb(w:World)(zs:Array Value)(t:TypeId):(w.alloc (.cells zs t)).there w.heap.size 0 zs.size:=by
 intro q hq;have h0:=dn w zs t (fun i=>zs.getD i undef) (fun i hi=>by simp[hi]);rw[aC,h0.cell hq];exact⟨rfl,h0.frozen q⟩
theorem Fh:(Tryz.prog.info? 72).map (·.size)=some 23:=by kernel_rfl
end Go.Proofs.YtdihdapmphkhpaaGreat
namespace Go.Proofs.YtdihdapmphkhpaaGreat
theorem Fw{c:Int}(h:few c):nJ c:=by
 rcases h with rfl|rfl|rfl|rfl|rfl|rfl|rfl
 ·exact ok_32
 ·exact ok_84
 ·exact ok_6
 ·exact ok_5
 ·exact ok_21
 ·exact ok_37
 exact ok_53
end Go.Proofs.YtdihdapmphkhpaaGreat
namespace Go.Proofs.YtdihdapmphkhpaaGreat
open Go.RowKit
variable{i:Nat}{l:List Int}{w:World}
attribute [local go_sem↓]Go.wp_at_zero Go.wp_at_succ
theorem IF(g b o cap rb ro rc:Nat)(p:List I)(r:List Int)(s:S)(w:World)(RES STEPS:Int)(hg:g≠b)(hgr:g≠rb)(hM:fH w g s (.slice (some ⟨rb,ro,none⟩) 64 rc) 0 0 false 0)(hs:s.ok)(hv:lk p)(hfew:∀x∈p,few x.c)(hb:b<w.heap.size)(hp:qw w b o p)
 (hrb:rb<w.heap.size)(hr:nO w rb ro r)(hrl:r.length=64)(hrr:eV r)(hrc:64<=rc)(h1:(kv r p.length p s).1=RES)(h2:(kv r p.length p s).2=STEPS):
 Calls Tryz.prog 30 #[.pointer (some ⟨g,0,none⟩),.slice (some ⟨b,o,none⟩) p.length cap] w fun e w'=>e=.returned (.tuple #[])∧(∃s' nx',fH w' g s' (.slice (some ⟨rb,ro,none⟩) 64 rc) nx' STEPS true RES)∧w.grownBy w' (some g):=by
 have hlen:=hv.2.1
 have Hfw:Hid (∀x∈p,few x.c):=hfew
 clear hfew
 have hl1:=hv.1
 have hCome:Come p r RES STEPS p.length s 0 0 false 0:=.inr ⟨rfl,0,rfl,by omega,rfl,by omega,by omega,hs,by simpa using h1,by simpa using h2⟩
 have hglt:=bS hM
 obtain⟨n,hn'⟩:∃n,p.length=n:=⟨_,rfl⟩
 have HN:Hid (p.length=n):=hn'
 rw[hn']at hCome hlen hl1⊢
 have HP:Hid _:=And.intro hv (And.intro hp (And.intro hr (And.intro hrl (And.intro hrr h1))))
 clear hn' hs hv hp hr hrl hrr h1 h2
 go_enter Tryz.func30,Tryz.ntmps30
 go_wp2_with fail
 go_loopg [4]n(fun k u wr=>∃s nx st en re,fH wr g s (.slice (some ⟨rb,ro,none⟩) 64 rc) nx st en re∧w.grownBy wr (some g)∧Hid (Come p r RES STEPS k s nx st en re))
 case atStart=>exact⟨s,0,0,false,0,hM,ah _ _,hCome⟩
 case round=>
  obtain⟨s,nx,st,en,re,hM',hG,HCm⟩:=hrel
  rcases HCm.out with⟨rfl,rfl,rfl,rfl⟩|⟨rfl,j,rfl,hj,rfl,q0,q1,hs,q2,q3⟩
  ·have ce:=hM'.ce
   have HE:Hid _:=And.intro hM' hG
   clear hM hCome HCm hM' hG
   go_wp2
   go_end0
   exact⟨rfl,⟨s,nx,HE.out.1⟩,HE.out.2⟩
  ·obtain⟨hv,hp,hr,hrl,hrr,h1⟩:=HP.out
   have hq:=hv.drop hj
   rw[qh hj]at hq
   have hh:=hq.head
   have hi:(p.getD j I.zero).ok:=hq.2.2.2 _ (by simp)
   obtain⟨c0,c1,c2,c3⟩:=hp j hj
   have d0:=hG.cell c0 (by simp;omega)
   have d1:=hG.cell c1 (by simp;omega)
   have d2:=hG.cell c2 (by simp;omega)
   have d3:=hG.cell c3 (by simp;omega)
   have ce:=hM'.ce
   have cn:=hM'.cn
   have fn:=hM'.fz 19
   have cs:=hM'.cs
   have fs:=hM'.fz 20
   have hjn:(j:Int)<(n:Int):=by have:=HN.out;omega
   have hlt':=bS hM'
   have hsz:=hG.size
   have hne:¬wr.heap.size=g:=by omega
   have hbr:b<wr.heap.size:=by omega
   have hne2:¬wr.heap.size=b:=by omega
   have hle:∀re',gV (p.getD j I.zero) s=none->Come p r RES STEPS (p.length-(j+1+gB (p.getD j I.zero) s)) (iH r (p.getD j I.zero) s) ((j:Int)+1+(gB (p.getD j I.zero) s:Nat)) (st+1) false re':=fun re' he=>EN hrr hv hj hs q0 q1 he q2 q3 re'
   have hce:∀v nx' s',gV (p.getD j I.zero) s=some v->Come p r RES STEPS 0 s' nx' (st+1) true v:=fun v nx' s' he=>Fm (re':=0) (k:=0) hj he q2 q3 nx' s'
   have hsk:gV (p.getD j I.zero) s=none->j+1+gB (p.getD j I.zero) s<p.length:=fun he=>Dl hv hj he
   have hstp:nJ (p.getD j I.zero).c:=Fw (Hfw.out _ (by rw[aa,ag hj];exact aI hj))
   have hjn2:=hj
   rw[HN.out]at hjn2
   have HCE:Hid _:=And.intro hce (And.intro hle hsk)
   have HV:Hid _:=And.intro hr (And.intro hrl (And.intro hrr (And.intro hh (And.intro hi (And.intro hs hstp)))))
   have HE:Hid _:=And.intro hM' hG
   clear hM hCome HCm hM' hG c0 c1 c2 c3 hv hp hr hrl hrr h1 hq hh hi hs q2 q3 hle hce hsk hstp hj HP
   generalize p.getD j I.zero=i at*
   obtain⟨c,jt,jf,k⟩:=i
   simp only at d0 d1 d2 d3
   go_wp2_with fail
   have HM4:fH (((wr.setCell ⟨g,19,none⟩ (Value.int IntKind.i64 ((j:Int)+1))).setCell ⟨g,20,none⟩ (Value.int IntKind.i64 (st+1))).alloc (Obj.cells #[Value.int IntKind.u16 c,Value.int IntKind.u8 jt,Value.int IntKind.u8 jf,Value.int IntKind.u32 k] 68)) g s (.slice (some ⟨rb,ro,none⟩) 64 rc) ((j:Int)+1) (st+1) false re:=((HE.out.1.setn _).sets _).alloc _
   have HG4:w.grownBy (((wr.setCell ⟨g,19,none⟩ (Value.int IntKind.i64 ((j:Int)+1))).setCell ⟨g,20,none⟩ (Value.int IntKind.i64 (st+1))).alloc (Obj.cells #[Value.int IntKind.u16 c,Value.int IntKind.u8 jt,Value.int IntKind.u8 jf,Value.int IntKind.u32 k] 68)) (some g):=jP (nQ (nQ HE.out.2 _ _) _ _) _
   have hsz4:(((wr.setCell ⟨g,19,none⟩ (Value.int IntKind.i64 ((j:Int)+1))).setCell ⟨g,20,none⟩ (Value.int IntKind.i64 (st+1))).alloc (Obj.cells #[Value.int IntKind.u16 c,Value.int IntKind.u8 jt,Value.int IntKind.u8 jf,Value.int IntKind.u32 k] 68)).heap.size=wr.heap.size+1:=by simp[World.setCell]
   have hX:∀q,(((wr.setCell ⟨g,19,none⟩ (Value.int IntKind.i64 ((j:Int)+1))).setCell ⟨g,20,none⟩ (Value.int IntKind.i64 (st+1))).alloc (Obj.cells #[Value.int IntKind.u16 c,Value.int IntKind.u8 jt,Value.int IntKind.u8 jf,Value.int IntKind.u32 k] 68)).cell? ⟨wr.heap.size,q,none⟩=(#[Value.int IntKind.u16 c,Value.int IntKind.u8 jt,Value.int IntKind.u8 jf,Value.int IntKind.u32 k]:Array Value)[q]? :=fun q=>bB _ _ _ _ (by simp[World.setCell])
   have x0:=hX 0
   have x1:=hX 1
   have x2:=hX 2
   have x3:=hX 3
   generalize((wr.setCell ⟨g,19,none⟩ (Value.int IntKind.i64 ((j:Int)+1))).setCell ⟨g,20,none⟩ (Value.int IntKind.i64 (st+1))).alloc (Obj.cells #[Value.int IntKind.u16 c,Value.int IntKind.u8 jt,Value.int IntKind.u8 jf,Value.int IntKind.u32 k] 68)=W at*
   obtain⟨hr,hrl,hrr,hh,hi,hs,hstp⟩:=HV.out
   have hrW:nO W rb ro r:=fun q hq=>HG4.cell (hr q hq) (by simp;omega)
   have hrbW:rb<W.heap.size:=by omega
   have HOP:Hid (Calls Tryz.prog 74 #[.pointer (some ⟨g,0,none⟩),kD c jt jf k] W.drew fun e w'=>e=.returned (.int .u32 (opI r ⟨c,jt,jf,k⟩ s))∧Below W.heap.size W.drew w'):=Ar g rb ro rc s _ _ _ _ ⟨c,jt,jf,k⟩ r W.drew HM4.drew hrbW hrW hrl hrr hrc hi hh.load hh.mem
   have HST:Hid (∀w5,Below W.heap.size W.drew w5->Calls Tryz.prog 73 #[.pointer (some ⟨g,0,none⟩),kD c jt jf k,.int .u32 (opI r ⟨c,jt,jf,k⟩ s)] w5 fun e w'=>e=.returned (.tuple #[])∧kA w' g r ⟨c,jt,jf,k⟩ s (.slice (some ⟨rb,ro,none⟩) 64 rc) ((j:Int)+1) (st+1) re∧w5.grownBy w' (some g)):=fun w5 h5=>
    hstp g _ s _ _ _ re jt jf k r w5 (HM4.drew.below h5) hs hrr hi hh (by omega) (by omega)
   have hne5:some wr.heap.size≠some g:=by simp;omega
   have hD5:wr.heap.size<W.heap.size:=by omega
   simp at x0 x1 x2 x3
   have HX:Hid (W.cell? ⟨wr.heap.size,0,none⟩=some (.int .u16 c)∧W.cell? ⟨wr.heap.size,1,none⟩=some (.int .u8 jt)∧W.cell? ⟨wr.heap.size,2,none⟩=some (.int .u8 jf)∧W.cell? ⟨wr.heap.size,3,none⟩=some (.int .u32 k)):=⟨x0,x1,x2,x3⟩
   have HGW:Hid (w.grownBy W (some g)):=HG4
   clear hX HM4 HG4 hrW hr hrl hrr hh hi hs hstp HV HE d0 d1 d2 d3 ce cn fn cs fs
   generalize opI r ⟨c,jt,jf,k⟩ s=y at*
   generalize hDe:wr.heap.size=D at*
   go_region_held3(fun w'=>w'.cell? ⟨D,0,none⟩=some (.int .u16 c)∧w'.cell? ⟨D,1,none⟩=some (.int .u8 jt)∧w'.cell? ⟨D,2,none⟩=some (.int .u8 jf)∧w'.cell? ⟨D,3,none⟩=some (.int .u32 k))
    (first|go_keep|exact⟨z0,z1,z2,z3⟩)
    ((first
      |(go_at_call 74;refine(HOP.out).mono ?_;rintro e w5⟨rfl,hb5⟩;have z0:=(hb5.cell (p:=⟨D,0,none⟩) hD5).trans HX.out.1;have z1:=(hb5.cell (p:=⟨D,1,none⟩) hD5).trans HX.out.2.1;have z2:=(hb5.cell (p:=⟨D,2,none⟩) hD5).trans HX.out.2.2.1;have z3:=(hb5.cell (p:=⟨D,3,none⟩) hD5).trans HX.out.2.2.2;have B5:Hid (Below W.heap.size W.drew w5):=hb5;clear hb5)
      |(go_at_call 73;refine(HST.out _ B5.out).mono ?_;rintro e w6⟨rfl,hA6,hG6⟩;have y0:=hG6.cell z0 hne5;have y1:=hG6.cell z1 hne5;have y2:=hG6.cell z2 hne5;have y3:=hG6.cell z3 hne5)))
   have HG6:Hid (w.grownBy w6 (some g)):=nc (nc (nY HGW.out) (GY (r:=some g) B5.out)) hG6
   have HA6:Hid (kA w6 g r ⟨c,jt,jf,k⟩ s (.slice (some ⟨rb,ro,none⟩) 64 rc) ((j:Int)+1) (st+1) re):=hA6
   clear hA6 hG6 B5 HGW HX HST HOP
   go_wp2
   cases he:gV ⟨c,jt,jf,k⟩ s with
   |some v=>
    have hM6:=HA6.out
    unfold kA at hM6
    rw[he]at hM6
    go_roundg 0
    case measure=>have:=HN.out;omega
    case rel=>exact⟨s,(j:Int)+1,st+1,true,v,hM6,HG6.out,HCE.out.1 v _ _ he⟩
   |none=>
    have hM6:=HA6.out
    unfold kA at hM6
    rw[he]at hM6
    have hlt6:=HCE.out.2.2 he
    go_roundg(p.length-(j+1+gB ⟨c,jt,jf,k⟩ s))
    case measure=>have:=HN.out;omega
    case rel=>exact⟨iH r ⟨c,jt,jf,k⟩ s,_,st+1,false,re,hM6,HG6.out,HCE.out.2.1 re he⟩
attribute [local go_sem↓]Go.wp_at_zero Go.wp_at_succ
theorem yW(a a':Option Addr)(cap cap':Nat)(p:List I)(r:List Int)(w:World)(hs:Src w a p)(hok:∀x∈p,x.ok)(hfew:∀x∈p,few x.c)(hv0:(jz p).1=0)(hl:r.length=64)(hn:p.length<=1048576)(hs':ng w a' r)(hrr:eV r)(hcap':r.length<=cap'):
 Calls Tryz.prog 12 #[.slice a p.length cap,.slice a' r.length cap'] w fun e w'=>e=.returned (tripV (runR p r) (runT p r) (runC p r))∧Below w.heap.size w w':=by
 have HV:Hid (Calls Tryz.prog 11 #[.slice a p.length cap] w fun e w'=>e=.returned (zU (jz p))∧Below w.heap.size w w'):=np a cap p w hs hok hn;have hv:nK p=true:=by simp[nK,hv0]
 have hq:=Gr hok hv;have e1:runR p r=(kv r p.length p jU).1:=by simp[runR,hv,hl]
 have e2:runT p r=(kv r p.length p jU).2:=by simp[runT,hv,hl]
 have e3:runC p r=0:=by simp[runC,hv,hl]
 rcases hs with h0|⟨b,o,rfl,hb,hp⟩
 ·have:=hq.1;rw[h0]at this;simp at this
 rcases hs' with h0|⟨rb,ro,rfl,hrb,hr⟩
 ·rw[h0]at hl;simp at hl
 have HR:Hid (∀wx,Below w.heap.size w wx->∀W g,g=wx.heap.size->Below wx.heap.size wx W->fH W g jU (.slice (some ⟨rb,ro,none⟩) 64 cap') 0 0 false 0->Calls Tryz.prog 30 #[.pointer (some ⟨g,0,none⟩),.slice (some ⟨b,o,none⟩) p.length cap] W fun e w'=>e=.returned (.tuple #[])∧(∃s' nx',fH w' g s' (.slice (some ⟨rb,ro,none⟩) 64 cap') nx' (kv r p.length p jU).2 true (kv r p.length p jU).1)∧W.grownBy w' (some g)):=by
  intro wx hB W g hg hBW hM;have hB2:Below w.heap.size w W:=hB.trans (hBW.mono hB.size);have hsz:=hB.size;have hsz2:=hB2.size;exact IF g b o cap rb ro cap' p r jU W _ _ (by omega) (by omega) hM Es hq hfew (by omega) (hp.below hb hB2) (by omega) (fun j hj=>(hB2.cell (p:=⟨rb,_,none⟩) hrb).trans (hr j hj)) hl hrr (by omega) rfl rfl
 rw[hl,e1,e2,e3];generalize kv r p.length p jU=res at*;have HVv:Hid ((jz p).1=0):=hv0;generalize jz p=vv at*;obtain⟨v1,v2⟩:=vv;simp only at hv0 HVv;subst hv0;clear hp hr hok hfew hq hv e1 e2 e3 HVv;generalize p.length=n at*;go_enter Tryz.func12,Tryz.ntmps12;go_wp2_with fail;refine HV.out.mono ?_;rintro e w1⟨rfl,hb1⟩;go_wp2_with(refine wpList_store_mid rfl 72 (.tmp 9) (.tmp 23) rfl w1.heap.size 0 _ rfl rfl ?ht Fh ?h1 ?_)
 case ht=>
  exact Eb w1 _ _
 case h1=>simp[Value.oneCell']
 have hB0:Below w1.heap.size w1 (w1.alloc (Obj.cells #[Value.int IntKind.u32 0,Value.int IntKind.u32 0,Value.int IntKind.u32 0,Value.int IntKind.u32 0,Value.int IntKind.u32 0,Value.int IntKind.u32 0,Value.int IntKind.u32 0,Value.int IntKind.u32 0,Value.int IntKind.u32 0,Value.int IntKind.u32 0,Value.int IntKind.u32 0,Value.int IntKind.u32 0,Value.int IntKind.u32 0,Value.int IntKind.u32 0,Value.int IntKind.u32 0,Value.int IntKind.u32 0,Value.int IntKind.u32 0,Value.int IntKind.u32 0,Value.slice none 0 0,Value.int IntKind.i64 0,Value.int IntKind.i64 0,Value.bool false,Value.int IntKind.u32 0] 72)):=(af _ _).alloc (ae _) _;have hMM:=CB (w:=w1) (zs:= #[Value.int IntKind.u32 0,Value.int IntKind.u32 0,Value.int IntKind.u32 0,Value.int IntKind.u32 0,Value.int IntKind.u32 0,Value.int IntKind.u32 0,Value.int IntKind.u32 0,Value.int IntKind.u32 0,Value.int IntKind.u32 0,Value.int IntKind.u32 0,Value.int IntKind.u32 0,Value.int IntKind.u32 0,Value.int IntKind.u32 0,Value.int IntKind.u32 0,Value.int IntKind.u32 0,Value.int IntKind.u32 0,Value.int IntKind.u32 0,Value.int IntKind.u32 0,Value.slice none 0 0,Value.int IntKind.i64 0,Value.int IntKind.i64 0,Value.bool false,Value.int IntKind.u32 0]) (rv:=.slice (some ⟨rb,ro,none⟩) 64 cap') rfl;have hBB:=uS (xC (.slice (some ⟨rb,ro,none⟩) 64 cap')) 0 hB0 (ae _);refine(HR.out w1 hb1 _ w1.heap.size rfl hBB hMM).mono ?_;rintro e w3⟨rfl,⟨s',nx',hM3⟩,hG3⟩;have hBW:Below w.heap.size w w3:=(hb1.trans (hBB.mono hb1.size)).grown hG3 (hb1.trans (hBB.mono hb1.size)).size (fun q hq=>by simp only[bz]at hq;have:=hb1.size;omega);have x1:=hM3.cx;have x2:=hM3.cs;have HBW:Hid _:=hBW;clear hM3 hG3 hMM hBB hB0 hb1 hBW HR HV;obtain⟨r1,r2⟩:=res;go_wp2_with fail;go_quiet(fail);go_wp2;go_ret3;exact⟨rfl,below_drewN HBW.out _⟩
theorem Fo{w1:World}{o:Obj}{r:Option Nat}(h:(w.alloc o).grownBy w1 r):w.grownBy w1 r:=
 ⟨h.os,h.tape,h.output,by have:=h.size;simp at this;omega,fun k hk hne=>(h.block k (by simp;omega) hne).trans (dS w o k hk)⟩
theorem uJ(B:Nat)(v:Value)(l:List Int)(x:Int)(w:World)(hown:owns w B v l)(hl:l.length<=16777216)(hB:B<=w.heap.size)(h0:0<=x)(h1:x<=4294967295):
 Calls Tryz.prog 32 #[v,.int .u32 x] w fun e w'=>∃v',e=.returned v'∧owns w' B v' (l++eD x 4)∧w.grownBy w' v.ownBlock:=by
 obtain⟨i0,hi,hz0,hz1,hz2⟩:=info_parts info5;rw[vM h0 h1];go_enter Tryz.func32,Tryz.ntmps32;go_wp2_with(at_builtin;refine wpList_append_own _ rfl (.tmp 5) (.tmp 17) 22 rfl B 5 i0 (.int .u8 0) 1 1 Tryz.underlying22 hi hz0 hz1 hz2 rfl (by decide) _ _ _ rfl (hown.alloc _) ⟨w.heap.size,0,none⟩ 4 4 ([x%256,x/256%256,x/65536%256,x/16777216].map (Value.int .u8)) rfl rfl ?c1 (wC _) ?c3 ?c4 ?c5 ?_)
 case c1=>
  intro j u hj;rw[kn];rw[bB _ _ _ _ rfl];simpa using hj
 case c3=>unfold maxLen;omega
 case c4=>omega
 case c5=>first|omega|(simp;omega)
 intro v1 w1 hown1 hgrow1 _;have ho1:owns w1 B v1 (l++[x%256,x/256%256,x/65536%256,x/16777216]):=Gp (by simp) hown1;have hg1:=Fo hgrow1;clear hown1 hgrow1 hown;go_wp2;go_ret;exact⟨_,rfl,ho1,hg1⟩
theorem lF(B:Nat)(v:Value)(l:List Int)(x:Int)(w:World)(hown:owns w B v l)(hl:l.length<=16777216)(hB:B<=w.heap.size)(h0:0<=x)(h1:x<=4294967295):
 Calls Tryz.prog 32 #[v,.int .u32 x] w fun e w'=>∃v',e=.returned v'∧owns w' B v' (l++eD x 4)∧Below B w w':=by
 refine(uJ B v l x w hown hl hB h0 h1).mono ?_;rintro e w'⟨v',rfl,h2,h3⟩;exact⟨v',rfl,h2,xJ (af _ _) hB hown h3⟩
theorem se(B:Nat)(v:Value)(l:List Int)(x:Int)(w:World)(hown:owns w B v l)(hl:l.length<=16777212)(hB:B<=w.heap.size)(h0:0<=x)(h1:x<=18446744073709551615):
 Calls Tryz.prog 33 #[v,.int .u64 x] w fun e w'=>∃v',e=.returned v'∧owns w' B v' (l++eD x 8)∧Below B w w':=by
 have e8:=uP h0 h1;have E8:Hid (eD x 8=eD (x%4294967296) 4++eD (x/4294967296) 4):=e8;have hl4:(eD (x%4294967296) 4).length=4:=iw _ _;clear e8;generalize eD x 8=L8 at*;go_enter Tryz.func33,Tryz.ntmps33;go_wp2_with fail;refine(lF B v l (x%4294967296) _ hown (by omega) hB (by omega) (by omega)).mono ?_;rintro e w1⟨v1,rfl,o1,b1⟩;have hB1:=aW hB b1.size;have hl1:(l++eD (x%4294967296) 4).length<=16777216:=by rw[aj,hl4];omega
 clear hown;generalize hm:l++eD (x%4294967296) 4=l1 at o1 hl1;have HM:Hid (l++eD (x%4294967296) 4=l1):=hm;clear hm hl4;go_wp2_with fail;refine(lF B v1 l1 (x/4294967296) _ o1 hl1 hB1 (by omega) (by omega)).mono ?_;rintro e w2⟨v2,rfl,o2,b2⟩;have o3:owns w2 B v2 (l++L8):=by rw[E8.out,<-aF,HM.out];exact o2
 have b3:=b1.trans b2;clear o1 o2 b1 b2;go_wp2;go_ret;exact⟨_,rfl,o3,b3⟩
theorem fY.FM{w1:World}{g B:Nat}{x y z:Value}(h:fY w g x y z)(hb:Below B w w1)(hg:g<B):fY w1 g x y z:=
 ⟨an h.lt hb.size,(hb.cell (p:=⟨g,_,none⟩) hg).trans h.c0,(hb.cell (p:=⟨g,_,none⟩) hg).trans h.c1,(hb.cell (p:=⟨g,_,none⟩) hg).trans h.c2,
  (hb.frozen (p:=⟨g,_,none⟩) hg).trans h.f0,(hb.frozen (p:=⟨g,_,none⟩) hg).trans h.f1,(hb.frozen (p:=⟨g,_,none⟩) hg).trans h.f2⟩
theorem EO{B B':Nat}{v:Value}(h:owns w B v l)(hb:B'<=B):owns w B' v l:=by
 obtain⟨h0,h|⟨g,cap,cur,rfl,hb',hr⟩⟩:=h
 ·exact⟨h0,.inl h⟩
 exact⟨h0,.inr ⟨g,cap,cur,rfl,by omega,hr⟩⟩
theorem Af(c:C)(a:Option Addr)(cap:Nat)(w:World):
 Calls Tryz.prog 31 #[Fz c (.slice a 6 cap)] w fun e w'=>e=.returned (.bool true)∧Below w.heap.size w w':=by
 obtain⟨ar,nr,args⟩:=c;go_enter Tryz.func31,Tryz.ntmps31;go_wp2;go_ret;exact⟨rfl,(af _ _).alloc (ae _) _⟩
theorem uO(c:C)(a:Option Addr)(cap:Nat)(ip:Int)(w:World)(hs:kV w a c.args)(hok:c.ok)(h6:c.args.length=6)(hip:gA ip):
 Calls Tryz.prog 13 #[Fz c (.slice a c.args.length cap),.int .u64 ip] w fun e w'=>∃v',e=.returned v'∧owns w' w.heap.size v' (mw c ip)∧Below w.heap.size w w':=by
 obtain⟨i0,hi,hz0,hz1,hz2⟩:=info_parts info5;obtain⟨ar,nr,args⟩:=c;obtain⟨a0,a1,n0,n1,hall⟩:=hok;obtain⟨p0,p1⟩:=hip;simp only at hs h6 a0 a1 n0 n1 hall⊢;obtain⟨b,o,rfl,hb,hp⟩:∃b o,a=some ⟨b,o,none⟩∧b<w.heap.size∧UAt w b o args:=by
  rcases hs with rfl|h
  ·simp at h6
  exact h
 have HP:Hid (∀i,i<6->w.cell? ⟨b,o+i,none⟩=some (.int .u64 (args.getD i 0))∧gA (args.getD i 0)):=fun i hi=>⟨hp i (by omega),hall _ (by rw[aa,ag (by omega)];exact aI (by omega))⟩
 have HT:Hid (∀i,i<6->gL (args.take (i+1))=gL (args.take i)++eD (args.getD i 0) 8):=fun i hi=>Au (by omega)
 have HR:Hid (mw ⟨ar,nr,args⟩ ip=eD nr 4++eD ar 4++eD ip 8++gL (args.take 6)):=by
  unfold Hid mw;rw[if_pos h6,<-h6,ct]
 have HL:Hid (∀i,i<=6->(eD nr 4++eD ar 4++eD ip 8++gL (args.take i)).length=16+8*i):=fun i hi=>by simp[iw,qP,h6,Nat.min_eq_left hi];omega
 have H0:Hid (eD nr 4++eD ar 4++eD ip 8++gL (args.take 0)=eD nr 4++eD ar 4++eD ip 8):=by unfold Hid;simp[gL]
 rw[h6];generalize mw ⟨ar,nr,args⟩ ip=R at*;clear hs hp hall;have hmk:∀u:World,(Instr.makeSlice 22 (.int .i64 0) (.int .i64 64)).run Tryz.prog u=
  .ok (.slice (some ⟨u.heap.size,0,none⟩) 0 64) (u.alloc (.cells (madeCells #[.int .u8 0] 64) 5)):=fun u=>by
  have h:=run_make (P:=Tryz.prog) u 22 5 i0 (.int .u8 0) Tryz.underlying22 hi hz0 .i64 .i64 0 64 (by omega) (by omega) (by rw[hz2];omega) (by omega);simpa[hz1,Value.cells]using h
 go_enter Tryz.func13,Tryz.ntmps13;go_wp2_with fail;refine(Af ⟨ar,nr,args⟩ _ cap _).mono ?_;rintro e w1⟨rfl,hb1⟩;have x1:=(fY.new w 29 (.int .u32 ar) (.int .u32 nr) (.slice (some ⟨b,o,none⟩) 6 cap)).ey hb1;have B1:Below w.heap.size w w1:=((af _ _).alloc (ae _) _).trans (hb1.mono (by simp));clear hb1;have hlt1:=x1.lt;have O2:owns (w1.alloc (.cells (madeCells #[.int .u8 0] 64) 5)) w1.heap.size (.slice (some ⟨w1.heap.size,0,none⟩) 0 64) []:=
  World.ownsRow_made w1 _ 64 (ae _) (by unfold maxLen;omega) (by rw[size_madeCells])
 have B2:Below w1.heap.size w1 (w1.alloc (.cells (madeCells #[.int .u8 0] 64) 5)):=(af _ _).alloc (ae _) _;have x2:=x1.alloc (.cells (madeCells #[.int .u8 0] 64) 5);obtain⟨_,q0,q1,q2,_,_,_⟩:=x2;go_wp2_with fail;refine(lF w1.heap.size _ [] nr _ O2 (by simp) B2.size n0 n1).mono ?_;rintro e w3⟨v3,rfl,O3,b3⟩;have B3:=B2.trans b3;have x3:=x1.FM B3 hlt1;clear b3 O2 q0 q1 q2;obtain⟨_,q0,q1,q2,_,_,_⟩:=x3;have hl3:([]++eD nr 4).length<=16777216:=by simp[iw]
 go_wp2_with fail;refine(lF w1.heap.size _ _ ar _ O3 hl3 B3.size a0 a1).mono ?_;rintro e w4⟨v4,rfl,O4,b4⟩;have B4:=B3.trans b4;have x4:=x1.FM B4 hlt1;clear b4 O3 q0 q1 q2 B3;obtain⟨_,q0,q1,q2,_,_,_⟩:=x4;have hl4:([]++eD nr 4++eD ar 4).length<=16777212:=by simp[iw]
 go_wp2_with fail;refine(se w1.heap.size _ _ ip _ O4 hl4 B4.size p0 p1).mono ?_;rintro e w5⟨v5,rfl,O5,b5⟩;have B5:=B4.trans b5;have x5:=x1.FM B5 hlt1;have O6:owns w5 w1.heap.size v5 (eD nr 4++eD ar 4++eD ip 8++gL (args.take 0)):=by rw[H0.out];simpa using O5
 clear b5 O4 q0 q1 q2 B4 O5 H0 B2;obtain⟨_,q0,q1,q2,_,_,_⟩:=x5;obtain⟨E,hE⟩:∃E:Nat->List Int,∀i,eD nr 4++eD ar 4++eD ip 8++gL (args.take i)=E i:=⟨_,fun _=>rfl⟩;have HT2:Hid (∀i,i<6->E (i+1)=E i++eD (args.getD i 0) 8):=fun i hi=>by rw[<-hE,<-hE,HT.out i hi];simp
 simp only[hE]at HR HL O6;clear hE HT hl3 hl4;go_wp2_with fail;go_loopw [5,26](fun s i wr=>∃k:Nat,k<=6∧i=.int .i64 k∧owns wr w1.heap.size s (E k)∧Below w1.heap.size w1 wr)(fun _ i _=>6-(intOf i).toNat)
 case atStart=>exact⟨0,by omega,rfl,O6,B5⟩
 case round=>
  obtain⟨k,hk,rfl,hown,hB⟩:=hrel;clear O6 B5 q0 q1 q2;by_cases hlt:k<6
  ·obtain⟨c0,y0,y1⟩:=HP.out k hlt;have d0:=(hB.cell (p:=⟨b,_,none⟩) (an hb B1.size)).trans ((B1.cell (p:=⟨b,_,none⟩) hb).trans c0);have HE:=HT2.out k hlt;have HE':Hid _:=HE;have hlen:=HL.out k hk;clear HP HT2 HL c0 HE;generalize args.getD k 0=y at*;go_wp2_with fail;refine(se w1.heap.size _ _ y _ hown (by omega) hB.size y0 y1).mono ?_;rintro e w6⟨v6,rfl,o6,b6⟩;have o7:owns w6 w1.heap.size v6 (E (k+1)):=by rw[HE'.out];exact o6
   have hB6:=hB.trans b6;clear o6 b6 hown hB;go_wp2;go_roundw
   case rel=>exact⟨k+1,by omega,by go_num,o7,hB6⟩
   case measure=>simp[intOf];omega
  have hk6:k=6:=by omega
  subst hk6;go_wp2;go_ret;exact⟨_,rfl,by rw[HR.out];exact EO hown B1.size,B1.trans (hB.mono B1.size)⟩
theorem kV.atA{a:Option Addr}(h:kV w a l)(hi:i<l.length):∃b o,a=some ⟨b,o,none⟩∧b<w.heap.size∧w.cell? ⟨b,o+i,none⟩=some (.int .u64 (l.getD i 0)):=by
 rcases h with rfl|⟨b,o,h1,h2,h3⟩
 ·simp at hi
 exact⟨b,o,h1,h2,h3 i hi⟩
theorem argU(h:∀y∈l,gA y)(hi:i<l.length):gA (l.getD i 0):=by
 rw[aa,ag hi];exact h _ (aI hi)
theorem tQ(r:List K)(args:List Int)(a a':Option Addr)(cap cap':Nat)(w:World)(hs:eS 3 PK w a r)(hu:kV w a' args)(ho:okR r)(hok:∀y∈args,gA y)(h6:r.length=6)(g6:args.length=6):
 Calls Tryz.prog 42 #[.agg #[.slice a 6 cap],.slice a' 6 cap'] w fun e w'=>e=.returned (.bool (eO r args))∧Below w.heap.size w w':=by
 have HC:Hid (∀i,i<6->∀w,Calls Tryz.prog 80 #[fC (r.getD i K.zero),.int .u64 (args.getD i 0)] w fun e w'=>e=.returned (.bool (eX (r.getD i K.zero) (args.getD i 0).toNat))∧Below w.heap.size w w'):=fun i hi w=>by
  have hq:=argU hok (i:=i) (by omega);unfold gA at hq;have:=tD (r.getD i K.zero) (args.getD i 0).toNat w (ti ho i) (by omega);rw[show(((args.getD i 0).toNat:Nat):Int)=args.getD i 0 by omega]at this;exact this
 have HY:Hid ((∀i,i<6->eX (r.getD i K.zero) (args.getD i 0).toNat=true)->eO r args=true):=vX;have HF:Hid (∀i,i<6->eX (r.getD i K.zero) (args.getD i 0).toNat=false->eO r args=false):=fun i hi h=>yb hi h
 have HP:Hid (∀wr,Below w.heap.size w wr->∀i,i<6->∃b o,a=some ⟨b,o,none⟩∧b<wr.heap.size∧PK wr b (o+i*3) (r.getD i K.zero)):=fun wr hB i hi=>(hs.below PK.stays hB).at (by omega) K.zero
 have HU:Hid (∀wr,Below w.heap.size w wr->∀i,i<6->∃b o,a'=some ⟨b,o,none⟩∧b<wr.heap.size∧wr.cell? ⟨b,o+i,none⟩=some (.int .u64 (args.getD i 0))):=fun wr hB i hi=>(hu.below hB).atA (by omega)
 obtain⟨V,hV⟩:∃V,eO r args=V:=⟨_,rfl⟩;rw[hV]at HY HF⊢;clear hV hs hu h6 g6 hok ho;have B:Below w.heap.size w (w.alloc (.cells #[.slice a 6 cap] 57)):=(af _ _).alloc (ae _) _;have x0:=nZ w 57 (.slice a 6 cap);go_enter Tryz.func42,Tryz.ntmps42;go_wp2_with fail;go_loopw [5](fun i wr=>∃k:Nat,k<=6∧i=.int .i64 k∧Hid (∀j,j<k->eX (r.getD j K.zero) (args.getD j 0).toNat=true)∧wr.cell? ⟨w.heap.size,0,none⟩=some (.slice a 6 cap)∧Below w.heap.size w wr)(fun i _=>6-(intOf i).toNat)
 case atStart=>exact⟨0,by omega,rfl,fun j hj=>by omega,x0,B⟩
 case round=>
  clear B x0;obtain⟨k,hk,rfl,HJ,x0,B⟩:=hrel;by_cases hk6:k<6
  ·obtain⟨b,o,rfl,hlt,c0,c1,c2⟩:=HP.out wr B k hk6;obtain⟨b',o',rfl,hlt',d0⟩:=HU.out wr B k hk6;have HC1:=HC.out k hk6;have HF1:Hid (eX (r.getD k K.zero) (args.getD k 0).toNat=false->V=false):=HF.out k hk6;have HJ1:Hid (eX (r.getD k K.zero) (args.getD k 0).toNat=true->∀j,j<k+1->eX (r.getD j K.zero) (args.getD j 0).toNat=true):=fun h j hj=>by
    by_cases hjk:j=k
    ·subst hjk;exact h
    exact HJ.out j (by omega)
   have hk6':(k:Int)<6:=by omega
   generalize hQ:eX (r.getD k K.zero) (args.getD k 0).toNat=Q at*;clear hQ;generalize args.getD k 0=v at*;generalize r.getD k K.zero=c at*;obtain⟨ck,ca,cb⟩:=c;simp only at c0 c1 c2;simp only[fC]at HC1;have HC2:Hid (∀w,Calls Tryz.prog 80 #[.agg #[.int .i64 ck,.int .u64 (ca:Int),.int .u64 (cb:Int)],.int .u64 v] w fun e w'=>e=.returned (.bool Q)∧Below w.heap.size w w'):=HC1;clear HC HF HP HU HJ HC1;go_wp2_with fail;go_region_with(go_at_call 80;refine(HC2.out _).mono ?_;rintro _ w1⟨rfl,hb1⟩);all_goals
    have B1:=eo hb1 B.drew;have x1:=eh hb1 (eh (af _ _).drew x0);clear hb1 x0 c0 c1 c2 d0
    cases Q with
    |false=>
     have hVf:V=false:=HF1.out (by first|rfl|trivial);subst hVf;go_wp2;go_ret;exact⟨rfl,B1⟩
    |true=>
     have HJ2:Hid (∀j,j<k+1->eX (r.getD j K.zero) (args.getD j 0).toNat=true):=HJ1.out (by first|rfl|trivial);go_wp2;go_roundw
     case rel=>exact⟨k+1,by omega,by go_num,HJ2,x1,B1⟩
     case measure=>simp[intOf];omega
  have hk':k=6:=by omega
  subst hk';have hVt:V=true:=HY.out HJ.out;subst hVt;go_wp2;go_ret;exact⟨rfl,B⟩
def nX(e:E)(c:C):Bool:=meets e c&&e.rules.any fun r=>eO r c.args
theorem tA{p:List E}(h:eW p=true)(hi:i<p.length):(p.getD i E.zero).rules.length<=200∧∀t,t<(p.getD i E.zero).rules.length->((p.getD i E.zero).rules.getD t []).length=6:=by
 have h1:=mA h hi;rw[fS,aL,gP,aL,aL]at h1;refine⟨by simpa using h1.2.1.2,fun t ht=> ?_⟩;have h2:=(kS [] eG _).1 h1.2.2 t ht;rw[eG,aL]at h2;simpa using h2.1
theorem yB(p:List E)(c:C)(a a':Option Addr)(cap cap':Nat)(w:World)(hs:eS 3 PE w a p)(hu:kV w a' c.args)(ho:okP p)(hok:∀y∈c.args,gA y)(hv:eW p=true)(g6:c.args.length=6)(hn:p.length<=16777216):
 Calls Tryz.prog 21 #[.agg #[.slice a p.length cap],.agg #[.int .u32 c.et,.int .u32 c.nr,.slice a' 6 cap']] w fun e w'=>e=.returned (.bool (p.any fun e=>nX e c))∧Below w.heap.size w w':=by
 have HP:Hid (∀wr,Below w.heap.size w wr->∀i,i<p.length->∃b o,a=some ⟨b,o,none⟩∧b<wr.heap.size∧PE wr b (o+i*3) (p.getD i E.zero)):=fun wr hB i hi=>(hs.below PE.stays hB).at hi E.zero
 have HN:Hid ((∀i,i<p.length->nX (p.getD i E.zero) c=false)->(p.any fun e=>nX e c)=false):=fun h=>G4 (d:=E.zero) h
 have HY:Hid (∀i,i<p.length->nX (p.getD i E.zero) c=true->(p.any fun e=>nX e c)=true):=fun i hi h=>(oC E.zero (fun e=>nX e c) p).2 ⟨i,hi,h⟩
 have HR:Hid (∀i,i<p.length->∀t,t<(p.getD i E.zero).rules.length->∀w1 a2 cap2,Below w.heap.size w w1->eS 3 PK w1 a2 ((p.getD i E.zero).rules.getD t [])->Calls Tryz.prog 42 #[.agg #[.slice a2 ((p.getD i E.zero).rules.getD t []).length cap2],.slice a' 6 cap'] w1 fun e w'=>e=.returned (.bool (eO ((p.getD i E.zero).rules.getD t []) c.args))∧Below w1.heap.size w1 w'):=fun i hi t ht w1 a2 cap2 hb hsr=>by
  have h6:=(tA hv hi).2 t ht;have:=tQ _ c.args a2 a' cap2 cap' w1 hsr (hu.below hb) (yd (mQ ho i).2.2 t) hok h6 g6;rw[h6];exact this
 have HL:Hid (∀i,i<p.length->(p.getD i E.zero).rules.length<=200):=fun i hi=>(tA hv hi).1
 have HH:Hid (∀e:E,nX e c=(e.et==c.et&&e.nr==c.nr&&e.rules.any fun r=>eO r c.args)):=fun e=>rfl
 have B:Below w.heap.size w ((w.alloc (.cells #[.slice a p.length cap] 25)).alloc (.cells #[.int .u32 c.et,.int .u32 c.nr,.slice a' 6 cap'] 29)):=((af _ _).alloc (ae _) _).alloc (by simp) _;have x0:=eh ((af _ _).alloc (ae _) (.cells #[.int .u32 c.et,.int .u32 c.nr,.slice a' 6 cap'] 29)) (nZ w 25 (.slice a p.length cap));have Y:=gu.new (w.alloc (.cells #[.slice a p.length cap] 25)) 29 (.int .u32 c.et) (.int .u32 c.nr) (.slice a' 6 cap');have hsz:(w.alloc (.cells #[.slice a p.length cap] 25)).heap.size=w.heap.size+1:=by simp
 rw[hsz]at Y;clear hsz;obtain⟨V,hV⟩:∃V,(p.any fun e=>nX e c)=V:=⟨_,rfl⟩;rw[hV]at HN HY⊢;clear hV hs hu ho hok hv g6;generalize p.length=n at*;obtain⟨carch,cnr,args⟩:=c;simp only at*;go_enter Tryz.func21,Tryz.ntmps21;go_wp2_with fail;go_loopw [5](fun i wr=>∃k:Nat,k<=n∧i=.int .i64 k∧Hid (∀j,j<k->nX (p.getD j E.zero) ⟨carch,cnr,args⟩=false)∧wr.cell? ⟨w.heap.size,0,none⟩=some (.slice a n cap)∧gu wr (w.heap.size+1) (.int .u32 carch) (.int .u32 cnr) (.slice a' 6 cap')∧Below w.heap.size w wr)(fun i _=>n-(intOf i).toNat)
 case atStart=>exact⟨0,by omega,rfl,fun j hj=>by omega,x0,Y,B⟩
 case round=>
  clear B x0 Y;obtain⟨k,hk,rfl,HJ0,x0,Y,B⟩:=hrel;rename World=>W0
  by_cases hkn:k<n
  ·have hkn':(k:Int)<(n:Int):=by omega
   have HStep:Hid (nX (p.getD k E.zero) ⟨carch,cnr,args⟩=false->∀j,j<k+1->nX (p.getD j E.zero) ⟨carch,cnr,args⟩=false):=fun h j hj=>by
    by_cases hjk:j=k
    ·subst hjk;exact h
    exact HJ0.out j (by omega)
   have HYes:Hid (nX (p.getD k E.zero) ⟨carch,cnr,args⟩=true->V=true):=HY.out k hkn;have HRk:=HR.out k hkn;have HHk:=HH.out (p.getD k E.zero);have hl:=HL.out k hkn;obtain⟨b,o,rfl,hlt,c0,c1,ar,capr,c2,hsr⟩:=HP.out W0 B k hkn;have HRl:Hid (∀wr,Below W0.heap.size W0 wr->∀t,t<(p.getD k E.zero).rules.length->∃ab ao,ar=some ⟨ab,ao,none⟩∧ab<wr.heap.size∧PR wr ab (ao+t*1) ((p.getD k E.zero).rules.getD t [])):=fun wr hb t ht=>(hsr.below PR.stays hb).at ht []
   have HAny:Hid ((∀s,s<(p.getD k E.zero).rules.length->eO ((p.getD k E.zero).rules.getD s []) args=false)->((p.getD k E.zero).rules.any fun r=>eO r args)=false):=fun h=>G4 (d:=[]) h
   have HAyes:Hid (∀s,s<(p.getD k E.zero).rules.length->eO ((p.getD k E.zero).rules.getD s []) args=true->((p.getD k E.zero).rules.any fun r=>eO r args)=true):=fun s hs h=>(oC [] (fun r=>eO r args) _).2 ⟨s,hs,h⟩
   generalize hhq:nX (p.getD k E.zero) ⟨carch,cnr,args⟩=Hq at*;clear hhq;generalize p.getD k E.zero=e at*;obtain⟨et,nr,rules⟩:=e;simp only at c0 c1 c2 hsr hl HRk HHk HRl HAny HAyes;generalize(rules.any fun r=>eO r args)=A at*;have HRk':Hid (∀t,t<rules.length->∀w1 a2 cap2,Below w.heap.size w w1->eS 3 PK w1 a2 (rules.getD t [])->Calls Tryz.prog 42 #[.agg #[.slice a2 (rules.getD t []).length cap2],.slice a' 6 cap'] w1 fun e w'=>e=.returned (.bool (eO (rules.getD t []) args))∧Below w1.heap.size w1 w'):=HRk;clear HRk hsr HP HN HY HR HL HH HJ0;generalize hmr:rules.length=m at*;clear hmr;have Xe:=gu.new W0 53 (.int .u32 et) (.int .u32 nr) (.slice ar m capr);have Bx:Below W0.heap.size W0 (W0.alloc (.cells #[.int .u32 et,.int .u32 nr,.slice ar m capr] 53)):=(af _ _).alloc (ae _) _;have x1:=eh Bx x0;have Y1:=Y.ey Bx;have hnx:=dA W0 _ x0;have hny:=dA W0 _ Y.c0;have y0:=Y1.c0;have y1:=Y1.c1;have y2:=Y1.c2;by_cases h1:et=carch
   ·subst h1;by_cases h2:nr=cnr
    ·subst h2;have HQ:Hid (Hq=A):=by unfold Hid;rw[HHk];simp
     clear HHk;go_wp2_with fail;clear y0 y1 y2 hnx hny;go_loopw [7](fun j wr=>∃t:Nat,t<=m∧j=.int .i64 t∧Hid (∀s,s<t->eO (rules.getD s []) args=false)∧gu wr W0.heap.size (.int .u32 et) (.int .u32 nr) (.slice ar m capr)∧wr.cell? ⟨w.heap.size,0,none⟩=some (.slice (some ⟨b,o,none⟩) n cap)∧gu wr (w.heap.size+1) (.int .u32 et) (.int .u32 nr) (.slice a' 6 cap')∧Below W0.heap.size W0 wr)(fun j _=>m-(intOf j).toNat)
     case atStart=>exact⟨0,by omega,rfl,fun s hs=>by omega,Xe,x1,Y1,Bx⟩
     case round=>
      clear Xe x1 Bx Y1;obtain⟨t,ht,rfl,HJ,Xe,x1,Y1,Bx⟩:=hrel;have e0:=Xe.c0;have e1:=Xe.c1;have e2:=Xe.c2;have f0:=Y1.c0;have f1:=Y1.c1;have f2:=Y1.c2;by_cases htm:t<m
      ·obtain⟨ab,ao,har,hablt,a2,cap2,r0,hsr2⟩:=HRl.out wr Bx t htm;have HRo:Hid (Calls Tryz.prog 42 #[.agg #[.slice a2 (rules.getD t []).length cap2],.slice a' 6 cap'] wr.drew fun e w'=>e=.returned (.bool (eO (rules.getD t []) args))∧Below wr.drew.heap.size wr.drew w'):=HRk'.out t htm wr.drew a2 cap2 (eo Bx B).drew (hsr2.below PK.stays (af _ _).drew);have HJ1:Hid (eO (rules.getD t []) args=false->∀s,s<t+1->eO (rules.getD s []) args=false):=fun h s hs=>by
        by_cases hst:s=t
        ·subst hst;exact h
        exact HJ.out s (by omega)
       have HF1:Hid (eO (rules.getD t []) args=true->V=true):=fun h=>HYes.out (by rw[HQ.out];exact HAyes.out t htm h)
       rw[bR]at r0;generalize eO (rules.getD t []) args=Q at*;generalize(rules.getD t []).length=len2 at*;subst har;have htm':(t:Int)<(m:Int):=by omega
       clear HJ hsr2 HRk' HRl HYes HAny HAyes HStep HQ;go_wp2_with fail;go_region_with(go_at_call 42;refine(HRo.out).mono ?_;rintro _ w5⟨rfl,hb5⟩);all_goals
        have hd:Below wr.heap.size wr wr.drew:=(af _ _).drew;have B5:=eo hb5 (eo hd Bx);have x5:=eh hb5 (eh hd x1);have X5:=(Xe.ey hd).ey hb5;have Y5:=(Y1.ey hd).ey hb5;clear hb5 hd e0 e1 e2 f0 f1 f2 x1 r0 HRo Xe Y1
        cases Q with
        |true=>
         have hVf:V=true:=HF1.out (by first|rfl|trivial);subst hVf;go_wp2;go_ret;exact⟨rfl,eo B5 B⟩
        |false=>
         have HJ2:Hid (∀s,s<t+1->eO (rules.getD s []) args=false):=HJ1.out (by first|rfl|trivial);go_wp2;go_roundw
         case rel=>exact⟨t+1,by omega,by go_num,HJ2,X5,x5,Y5,B5⟩
         case measure=>simp[intOf];omega
      have htm':t=m:=by omega
      subst htm';have HG:Hid (∀j,j<k+1->nX (p.getD j E.zero) ⟨et,nr,args⟩=false):=HStep.out (by rw[HQ.out];exact HAny.out HJ.out);have B6:=eo Bx B;clear HStep HQ HAny HAyes HRk' HRl HYes HJ;go_wp2;go_roundw
      case rel=>exact⟨k+1,by omega,by go_num,HG,x1,Y1,B6⟩
      case measure=>simp[intOf];omega
    have hb2:(nr !=cnr)=true:=by rw[bne_iff_ne];exact h2
    have HG:Hid (∀j,j<k+1->nX (p.getD j E.zero) ⟨et,cnr,args⟩=false):=HStep.out (by rw[HHk];simp[h2]);have B6:=eo Bx B;clear HStep HHk HAny HAyes HRk' HRl HYes;go_wp2;go_roundw
    case rel=>exact⟨k+1,by omega,by go_num,HG,x1,Y1,B6⟩
    case measure=>simp[intOf];omega
   have hb1:(et !=carch)=true:=by rw[bne_iff_ne];exact h1
   have HG:Hid (∀j,j<k+1->nX (p.getD j E.zero) ⟨carch,cnr,args⟩=false):=HStep.out (by rw[HHk];simp[h1]);have B6:=eo Bx B;clear HStep HHk HAny HAyes HRk' HRl HYes;go_wp2;go_roundw
   case rel=>exact⟨k+1,by omega,by go_num,HG,x1,Y1,B6⟩
   case measure=>simp[intOf];omega
  have hk':k=n:=by omega
  subst hk';have hVf:V=false:=HN.out HJ0.out;subst hVf;go_wp2;go_ret;exact⟨rfl,B⟩
theorem CC(p:List E)(c:C):kP p c=(eW p&&(c.args.length==6)&&p.any fun e=>nX e c):=rfl
theorem uy(p:List E)(c:C)(a a':Option Addr)(cap cap':Nat)(w:World)(hs:eS 3 PE w a p)(hu:kV w a' c.args)(ho:okP p)(hok:∀y∈c.args,gA y)(hl:c.args.length<=16777216)(hn:p.length<=16777216)(hm:∀e∈p,e.rules.length<=16777216)(hm2:∀e∈p,∀r∈e.rules,r.length<=16777216):
 Calls Tryz.prog 6 #[.agg #[.slice a p.length cap],.agg #[.int .u32 c.et,.int .u32 c.nr,.slice a' c.args.length cap']] w fun e w'=>e=.returned (.bool (kP p c))∧Below w.heap.size w w':=by
 have HV:Hid (∀w1,Below w.heap.size w w1->Calls Tryz.prog 5 #[.agg #[.slice a p.length cap]] w1 fun e w'=>e=.returned (.bool (eW p))∧Below w1.heap.size w1 w'):=fun w1 hb=>km p a cap w1 (hs.below PE.stays hb) ho hn hm hm2
 have HA:Hid (eW p=true->c.args.length=6->∀w1,Below w.heap.size w w1->Calls Tryz.prog 21 #[.agg #[.slice a p.length cap],.agg #[.int .u32 c.et,.int .u32 c.nr,.slice a' 6 cap']] w1 fun e w'=>e=.returned (.bool (p.any fun e=>nX e c))∧Below w1.heap.size w1 w'):=fun h1 h2 w1 hb=>yB p c a a' cap cap' w1 (hs.below PE.stays hb) (hu.below hb) ho hok h1 h2 hn
 rw[CC]
 have B:Below w.heap.size w ((w.alloc (.cells #[.slice a p.length cap] 25)).alloc (.cells #[.int .u32 c.et,.int .u32 c.nr,.slice a' c.args.length cap'] 29)):=((af _ _).alloc (ae _) _).alloc (by simp) _
 have x0:=eh ((af _ _).alloc (ae _) (.cells #[.int .u32 c.et,.int .u32 c.nr,.slice a' c.args.length cap'] 29)) (nZ w 25 (.slice a p.length cap))
 have Y:=gu.new (w.alloc (.cells #[.slice a p.length cap] 25)) 29 (.int .u32 c.et) (.int .u32 c.nr) (.slice a' c.args.length cap')
 have hsz:(w.alloc (.cells #[.slice a p.length cap] 25)).heap.size=w.heap.size+1:=by simp
 rw[hsz]at Y
 clear hsz hs hu ho hok hm hm2
 generalize p.length=n at*
 generalize(p.any fun e=>nX e c)=A at*
 generalize eW p=V at*
 generalize hm:c.args.length=m at*
 clear hm
 generalize c.et=ca at*
 generalize c.nr=cn at*
 cases V with
 |false=>
  clear HA
  go_enter Tryz.func6,Tryz.ntmps6
  go_wp2_with fail
  refine(HV.out _ B).mono ?_
  rintro _ w1⟨rfl,hb1⟩
  have B1:=eo hb1 B
  go_wp2
  go_ret
  exact⟨rfl,B1⟩
 |true=>
  by_cases h6:m=6
  ·subst h6
   have HA1:=HA.out (by first|rfl|trivial) (by first|rfl|trivial)
   have HA2:Hid (∀w1,Below w.heap.size w w1->Calls Tryz.prog 21 #[.agg #[.slice a n cap],.agg #[.int .u32 ca,.int .u32 cn,.slice a' 6 cap']] w1 fun e w'=>e=.returned (.bool A)∧Below w1.heap.size w1 w'):=HA1
   clear HA HA1
   go_enter Tryz.func6,Tryz.ntmps6
   go_wp2_with fail
   refine(HV.out _ B).mono ?_
   rintro _ w1⟨rfl,hb1⟩
   have B1:=eo hb1 B
   have x1:=eh hb1 x0
   have Y1:=Y.ey hb1
   have y0:=Y1.c0
   have y1:=Y1.c1
   have y2:=Y1.c2
   go_wp2_with fail
   refine(HA2.out _ B1).mono ?_
   rintro _ w2⟨rfl,hb2⟩
   have B2:=eo hb2 B1
   cases A<;>
   ·go_wp2
    go_ret
    exact⟨rfl,B2⟩
  ·have hb6:((m:Int)==6)=false:=by rw[beq_eq_false_iff_ne];omega
   have hb7:(m==6)=false:=by rw[beq_eq_false_iff_ne];exact h6
   rw[hb7]
   clear HA
   go_enter Tryz.func6,Tryz.ntmps6
   go_wp2_with fail
   refine(HV.out _ B).mono ?_
   rintro _ w1⟨rfl,hb1⟩
   have B1:=eo hb1 B
   have x1:=eh hb1 x0
   have Y1:=Y.ey hb1
   have y0:=Y1.c0
   have y1:=Y1.c1
   have y2:=Y1.c2
   go_wp2
   go_ret
   exact⟨rfl,B1⟩
end Go.Proofs.YtdihdapmphkhpaaGreat
