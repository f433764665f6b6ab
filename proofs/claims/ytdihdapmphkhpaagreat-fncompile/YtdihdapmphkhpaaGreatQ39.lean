import Derived.Laws.AppendOwnNone
import Derived.Test.YtdihdapmphkhpaaGreatQ38
set_option linter.all false
set_option maxRecDepth 200000
set_option maxHeartbeats 16000000
namespace Go.Proofs.YtdihdapmphkhpaaGreat
open Go.RowKit
variable{es:List E}{k:Nat}
theorem tw_len(p:E->Bool):∀(l:List E)(k:Nat),(∀j,j<k->p (l.getD j E.zero)=true)->k<=l.length->(k<l.length->p (l.getD k E.zero)=false)->(l.takeWhile p).length=k:=by
 intro l;induction l with
 |nil=>intro k _ h2 _;simp at h2;subst h2;rfl
 |cons x l ih=>
  intro k h1 h2 h3
  cases k with
  |zero=>
   have:=h3 (by simp);simp only[dF]at this;rw[List.takeWhile_cons,this];rfl
  |succ k=>
   have h0:=h1 0 (by omega);simp only[dF]at h0;rw[List.takeWhile_cons,h0];simp only[if_true,aq];rw[ih k (fun j hj=>by have:=h1 (j+1) (by omega);simpa using this) (by simpa using h2) (fun hk=>by have:=h3 (by simpa using hk);simpa using this)]
theorem vF(h1:∀j,j<k->(es.getD j E.zero).et=(es.getD 0 E.zero).et)(hk:k<=es.length)(hk1:1<=es.length)(h3:k<es.length->(es.getD k E.zero).et≠(es.getD 0 E.zero).et):ew es=k:=by
 cases es with
 |nil=>simp at hk1
 |cons e es=>
  cases k with
  |zero=>exact absurd rfl (h3 (by simp))
  |succ k=>
   simp only[ew];rw[tw_len (fun x=>x.et==e.et) es k (fun j hj=>by have:=h1 (j+1) (by omega);simpa using this) (by simpa using hk) (fun hl=>by have:=h3 (by simpa using hl);simpa using this)];omega
theorem wj(x y:Int)(s:Value)(Bx b o m cap:Nat)(ar:Int)(w:World)(hm:1<=m)(hs1:∃a n c,s=.slice a n c)(hB:w.cell? ⟨Bx,0,none⟩=some (.slice (some ⟨b,o,none⟩) m cap))(hc:w.cell? ⟨b,o,none⟩=some (.int .u32 ar)):
 Calls Tryz.prog 94 #[.agg #[.int .u32 x,.int .u32 y,s],.pointer (some ⟨Bx,0,none⟩)] w fun e w'=>e=.returned (.bool (x !=ar))∧Below w.heap.size w w':=by
 obtain⟨sa,sn,sc,rfl⟩:=hs1;have hb:Below w.heap.size w (w.alloc (.cells #[.int .u32 x,.int .u32 y,.slice sa sn sc] 53)):=(af _ _).alloc (ae _) _;have h1:=eh hb hB;have h2:=eh hb hc;have hm':(0:Int)<(m:Int):=by omega
 have HB:Hid (Below w.heap.size w (w.alloc (.cells #[.int .u32 x,.int .u32 y,.slice sa sn sc] 53)).drew):=hb.drew;clear hb hB hc;go_enter Tryz.func94,Tryz.ntmps94;go_wp2_with fail;go_region;all_goals go_wp2
 all_goals go_ret
 all_goals exact⟨rfl,HB.out⟩
theorem wI(w0 w:World)(es:List E)(Bx b o cap:Nat)(hs:eS 3 PEC w0 (some ⟨b,o,none⟩) es)(hb0:Below w0.heap.size w0 w)(hl1:1<=es.length)(hl2:es.length<=1000000)(hB:w.cell? ⟨Bx,0,none⟩=some (.slice (some ⟨b,o,none⟩) es.length cap)):
 Calls Tryz.prog 93 #[.slice (some ⟨b,o,none⟩) es.length cap,.func (.func 94) #[] #[.pointer (some ⟨Bx,0,none⟩)]] w fun e w'=>e=.returned (.int .i64 (if ew es<es.length then(ew es:Int)else-1))∧Below w.heap.size w w':=by
 have HP:Hid (∀wr,Below w.heap.size w wr->∀i,i<es.length->∃a' cap',wr.cell? ⟨b,o+i*3,none⟩=some (.int .u32 (es.getD i E.zero).et)∧wr.cell? ⟨b,o+i*3+1,none⟩=some (.int .u32 (es.getD i E.zero).nr)∧wr.cell? ⟨b,o+i*3+2,none⟩=some (.slice a' (es.getD i E.zero).rules.length cap')):=fun wr hBw i hi=>by
  obtain⟨b',o',e,hb,c0,c1,a',cap',c2,_⟩:=hs.at (i:=i) hi E.zero
  cases e;have hx:=hb0.trans (hBw.mono hb0.size);exact⟨a',cap',(hx.cell (p:=⟨b,_,none⟩) hb).trans c0,(hx.cell (p:=⟨b,_,none⟩) hb).trans c1,(hx.cell (p:=⟨b,_,none⟩) hb).trans c2⟩
 have HC:Hid (∀wr x y a' n' c',Below w.heap.size w wr->Calls Tryz.prog 94 #[.agg #[.int .u32 x,.int .u32 y,.slice a' n' c'],.pointer (some ⟨Bx,0,none⟩)] wr fun e w'=>e=.returned (.bool (x !=(es.getD 0 E.zero).et))∧Below wr.heap.size wr w'):=fun wr x y a' n' c' hBw=>by
  obtain⟨_,_,d0,_,_⟩:=HP.out wr hBw 0 (by omega);simp only[dQ,cA]at d0;exact wj x y _ Bx b o es.length cap _ wr hl1 ⟨_,_,_,rfl⟩ (eh hBw hB) d0
 have HY:Hid (∀k,k<es.length->(∀j,j<k->(es.getD j E.zero).et=(es.getD 0 E.zero).et)->(es.getD k E.zero).et≠(es.getD 0 E.zero).et->(if ew es<es.length then(ew es:Int)else-1)=(k:Int)):=fun k hk h1 h2=>by
  rw[vF h1 (by omega) hl1 (fun _=>h2),if_pos hk]
 have HZ:Hid ((∀j,j<es.length->(es.getD j E.zero).et=(es.getD 0 E.zero).et)->(if ew es<es.length then(ew es:Int)else-1)= -1):=fun h1=>by
  rw[vF h1 (ae _) hl1 (fun h=>by omega),if_neg (by omega)]
 generalize(if ew es<es.length then(ew es:Int)else-1)=V at*;clear hs hb0 hB;generalize(es.getD 0 E.zero).et=ar at*;generalize es.length=n at*;go_enter Tryz.func93,Tryz.ntmps93;go_wp2_with fail;go_loopw [8](fun i wr=>∃k:Nat,k<=n∧i=.int .i64 k∧Hid (∀j,j<k->(es.getD j E.zero).et=ar)∧Below w.heap.size w wr)(fun i _=>n-(intOf i).toNat)
 case atStart=>exact⟨0,by omega,rfl,fun j hj=>by omega,af _ _⟩
 case round=>
  obtain⟨k,hk,rfl,HJ,B⟩:=hrel;by_cases hkn:k<n
  ·obtain⟨a',cap',c0,c1,c2⟩:=HP.out wr B k hkn;have HY1:Hid ((es.getD k E.zero).et≠ar->V=(k:Int)):=fun h=>HY.out k hkn HJ.out h
   have HJ1:Hid ((es.getD k E.zero).et=ar->∀j,j<k+1->(es.getD j E.zero).et=ar):=fun h j hj=>by
    by_cases hjk:j=k
    ·subst hjk;exact h
    exact HJ.out j (by omega)
   have hkn':(k:Int)<(n:Int):=by omega
   generalize(es.getD k E.zero).rules.length=rl at*;generalize(es.getD k E.zero).nr=nr at*;generalize(es.getD k E.zero).et=x at*;have HC1:=HC.out wr x nr a' rl cap' B;have HC2:Hid (Calls Tryz.prog 94 #[.agg #[.int .u32 x,.int .u32 nr,.slice a' rl cap'],.pointer (some ⟨Bx,0,none⟩)] wr fun e w'=>e=.returned (.bool (x !=ar))∧Below wr.heap.size wr w'):=HC1;clear HC HP HJ HY HC1;go_wp2_with fail;refine(HC2.out).mono ?_;rintro _ w1⟨rfl,hb1⟩;have B1:=eo hb1 B;clear hb1 c0 c1 c2 B;by_cases hx:x=ar
   ·have hx2:(x !=ar)=false:=by simpa using hx
    rw[hx2];have HJ2:Hid (∀j,j<k+1->(es.getD j E.zero).et=ar):=HJ1.out hx;clear hx hx2 HJ1 HY1;go_wp2;go_roundw
    case rel=>exact⟨k+1,by omega,by go_num,HJ2,B1⟩
    case measure=>simp[intOf];omega
   have hx2:(x !=ar)=true:=by simpa using hx
   rw[hx2];have hV:=HY1.out hx;subst hV;clear hx hx2 HJ1 HY1;go_wp2;go_ret;exact⟨rfl,B1⟩
  have hk':k=n:=by omega
  subst hk';have hV:=HZ.out HJ.out;subst hV;clear HC HP HY;go_wp2;go_ret;exact⟨rfl,B⟩
theorem sh(w0 w:World)(es:List E)(b o cap:Nat)(hs:eS 3 PEC w0 (some ⟨b,o,none⟩) es)(hb0:Below w0.heap.size w0 w)(hl1:1<=es.length)(hl2:es.length<=1000000):
 Calls Tryz.prog 56 #[.slice (some ⟨b,o,none⟩) es.length cap] w fun e w'=>e=.returned (.int .i64 (ew es:Int))∧Below w.heap.size w w':=by
 have hb:Below w.heap.size w (w.alloc (.cells #[.slice (some ⟨b,o,none⟩) es.length cap] 23)):=(af _ _).alloc (ae _) _;have hbx:(w.alloc (.cells #[.slice (some ⟨b,o,none⟩) es.length cap] 23)).cell? ⟨w.heap.size,0,none⟩=some (.slice (some ⟨b,o,none⟩) es.length cap):=by simp
 have HI:Hid (Calls Tryz.prog 93 #[.slice (some ⟨b,o,none⟩) es.length cap,.func (.func 94) #[] #[.pointer (some ⟨w.heap.size,0,none⟩)]] (w.alloc (.cells #[.slice (some ⟨b,o,none⟩) es.length cap] 23)) fun e w'=>e=.returned (.int .i64 (if ew es<es.length then(ew es:Int)else-1))∧Below w.heap.size w w'∧w'.cell? ⟨w.heap.size,0,none⟩=some (.slice (some ⟨b,o,none⟩) es.length cap)):=(wI w0 _ es w.heap.size b o cap hs (hb0.trans (hb.mono hb0.size)) hl1 hl2 hbx).mono (by
  rintro e w'⟨h1,h2⟩
  exact⟨h1,eo h2 hb,eh h2 hbx⟩)
 have hle:=kR es;by_cases hlt:ew es<es.length
 ·rw[if_pos hlt]at HI;generalize ew es=k at*;clear hs hb0 hb hbx;generalize es.length=n at*;have hk0:¬(k:Int)<0:=by omega
  go_enter Tryz.func56,Tryz.ntmps56;go_wp2_with fail;refine(HI.out).mono ?_;rintro _ w1⟨rfl,hb1,c1⟩;go_wp2;go_ret;exact⟨rfl,hb1⟩
 rw[if_neg hlt]at HI;have he:ew es=es.length:=by omega
 rw[he];clear hs hb0 hb hbx he hlt hle;generalize es.length=n at*;go_enter Tryz.func56,Tryz.ntmps56;go_wp2_with fail;refine(HI.out).mono ?_;rintro _ w1⟨rfl,hb1,c1⟩;go_wp2;go_ret;exact⟨rfl,hb1⟩
theorem kK(h:1<=es.length):1<=ew es:=by
 cases es with
 |nil=>simp at h
 |cons e es=>simp only[ew];omega
theorem Be(h:1<=es.length)(n:Int):jO (k+1) es n=(fq 21 (es.getD 0 E.zero).et (n+1)::fi 0::fV (ew es) (es.take (ew es)) (n+1)++[fe (n+1)])++jO k (es.drop (ew es)) (fK (ew es) (es.take (ew es)) (n+1))∧mg (k+1) es n=mg k (es.drop (ew es)) (fK (ew es) (es.take (ew es)) (n+1)):=by
 simp only[jO,mg];rw[if_neg (by omega),if_neg (by omega)];exact⟨rfl,rfl⟩
theorem DT(h:es.length=0)(n:Int):jO k es n=[]∧mg k es n=n:=by
 cases k with
 |zero=>exact⟨rfl,rfl⟩
 |succ k=>simp only[jO,mg];rw[if_pos h,if_pos h];exact⟨rfl,rfl⟩
structure PoS(w0 w wr:World)(F:Nat)(QT:List It)(NT:Int)(av:Option Addr)(c:Nat)(k:Nat)(es:List E)(v:Value)(q:List It)(n:Int):Prop where
 hw:WrS wr F v q n
 kw:KW F w wr
 hq:q++jO k es n=QT
 hn:mg k es n=NT
 fuel:es.length<=k
 cap:es.length<=c
 src:1<=es.length->∃b o,av=some ⟨b,o,none⟩∧eS 3 PEC w0 (some ⟨b,o,none⟩) es
 ok:∀e∈es,WrE e
 bq:q.length+(74*gN es+4*es.length)<=290000
 bn:0<=n∧n+13*(gN es:Int)+2*(es.length:Int)<=290000
theorem PoS.next{w0 w wr w1:World}{F:Nat}{QT:List It}{NT:Int}{b o c:Nat}{v v1:Value}{q:List It}{n:Int}(h:PoS w0 w wr F QT NT (some ⟨b,o,none⟩) c (k+1) es v q n)(hl:1<=es.length)
 (hW:WrS w1 F v1 (q++(fq 21 (es.getD 0 E.zero).et (n+1)::fi 0::fV (ew es) (es.take (ew es)) (n+1)++[fe (n+1)])) (fK (ew es) (es.take (ew es)) (n+1)))(hK:KW F wr w1):
 PoS w0 w w1 F QT NT (if c=ew es then some ⟨b,o,none⟩else some ⟨b,o+ew es*3,none⟩) (c-ew es) k (es.drop (ew es)) v1 (q++(fq 21 (es.getD 0 E.zero).et (n+1)::fi 0::fV (ew es) (es.take (ew es)) (n+1)++[fe (n+1)])) (fK (ew es) (es.take (ew es)) (n+1)):=by
 obtain⟨e1,e2⟩:=Be (k:=k) hl n
 have hp:=kK hl
 have hle:=kR es
 have ht:(es.take (ew es)).length=ew es:=by simp;omega
 have hd:(es.drop (ew es)).length=es.length-ew es:=by simp
 obtain⟨f1,f2⟩:=kC (ew es) (es.take (ew es)) (n+1) (fun e he=>h.ok e (aB he)) (by omega) (by omega)
 have f3:=kj (ew es) (es.take (ew es)) (n+1)
 have hs:=fX es (ew es)
 rw[ht]at f1 f2
 have hfu:=h.fuel
 have hca:=h.cap
 have hbq:=h.bq
 have hbn:=h.bn
 refine⟨hW,h.kw.trans hK,by rw[<-h.hq,e1,aF],by rw[<-h.hn,e2],by omega,by omega,fun h1=> ?_,fun e he=>h.ok e (aQ he),?_,?_⟩
 ·obtain⟨b',o',e,hsr⟩:=h.src hl
  cases e
  rw[if_neg (by omega)]
  exact⟨b,_,rfl,hsr.back (ew es)⟩
 ·rw[hd]
  simp only[aj,aq,aU]
  omega
 ·rw[hd]
  omega
theorem PoS.done{w0 w wr:World}{F:Nat}{QT:List It}{NT:Int}{av:Option Addr}{c:Nat}{v:Value}{q:List It}{n:Int}(h:PoS w0 w wr F QT NT av c k es v q n)(hl:es.length=0):q=QT∧n=NT:=by
 obtain⟨e1,e2⟩:=DT (k:=k) hl n;have h1:=h.hq;have h2:=h.hn;rw[e1,bM]at h1;rw[e2]at h2;exact⟨h1,h2⟩
def qA:Value->Nat
 |.slice _ n _=>n
 |_=>0
def PoP(w0 w wr:World)(F:Nat)(QT:List It)(NT:Int)(av:Option Addr)(m c:Nat):Prop:=∃k es v q n,m=es.length∧PoS w0 w wr F QT NT av c k es v q n
theorem Ba(w0 w:World)(F:Nat)(hF:w0.heap.size<=F)(v:Value)(es:List E)(a:Option Addr)(cap:Nat)(hS:WrS w F v [] 0)(hs:eS 3 PEC w0 a es)(hb0:Below w0.heap.size w0 w)(hE:∀e∈es,WrE e)(hcap:es.length<=cap)(hbq:74*gN es+4*es.length<=280000)(hbn:13*gN es+2*es.length<=280000):
 Calls Tryz.prog 26 #[.pointer (some ⟨F,0,none⟩),.slice a es.length cap] w fun e w'=>fl F (iY es) (mg es.length es 0) w e w':=by
 obtain⟨QT,hQT⟩:∃QT,(if es.length=0 then []else [fi 4])++jO es.length es 0=QT:=⟨_,rfl⟩;obtain⟨NT,hNT⟩:∃NT,mg es.length es 0=NT:=⟨_,rfl⟩;have hit:iY es=QT++[fe 0]++[jQ 2147483648]:=by unfold iY;rw[hQT]
 rw[hit,hNT];have HL4:Hid (Calls Tryz.prog 55 #[.pointer (some ⟨F,0,none⟩),.int .i64 4] w fun e w'=>e=.returned (.tuple #[])∧(∃v',WrS w' F v' ([]++[fi 4]) 0)∧KW F w w'):=oA w F v [] 0 4 hS (by simp) (by omega) (by omega);have HSt:Hid (∀wr v1,0<es.length->WrS wr F v1 ([]++[fi 4]) 0->KW F w wr->PoP w0 w wr F QT NT a es.length cap):=fun wr v1 hl h1 h2=>⟨es.length,es,v1,[fi 4],0,rfl,by
  refine⟨h1,h2,?_,hNT,ae _,hcap,fun _=> ?_,hE,by simp;omega,by omega⟩
  ·rw[<-hQT,if_neg (by omega)]
  obtain⟨b,o,rfl,_⟩:=hs.at (i:=0) (by omega) E.zero
  exact⟨b,o,rfl,hs⟩⟩
 have HS0:Hid (es.length=0->PoP w0 w w F QT NT a es.length cap):=fun hl=>⟨es.length,es,v,[],0,rfl,by
  refine⟨hS,KW.refl _ _,?_,hNT,ae _,hcap,fun h=>by omega,hE,by simp;omega,by omega⟩
  rw[<-hQT,if_pos hl]⟩
 have HBw:Hid (∀wr,KW F w wr->Below w0.heap.size w0 wr):=fun wr h=>hb0.trans (h.b.mono hF)
 have HEnd1:Hid (∀wr v1,WrS wr F v1 QT NT->QT.length<=900000->Calls Tryz.prog 58 #[.pointer (some ⟨F,0,none⟩),.int .i64 0] wr fun e w'=>e=.returned (.tuple #[])∧(∃v',WrS w' F v' (QT++[fe 0]) NT)∧KW F wr w'):=fun wr v1 h hq=>lO wr F v1 QT NT 0 h (by omega)
 have HEnd2:Hid (∀wr v1,WrS wr F v1 (QT++[fe 0]) NT->QT.length<=900000->Calls Tryz.prog 59 #[.pointer (some ⟨F,0,none⟩),.int .u16 6,.int .u32 2147483648] wr fun e w'=>e=.returned (.tuple #[])∧(∃v',WrS w' F v' (QT++[fe 0]++[jQ 2147483648]) NT)∧KW F wr w'):=fun wr v1 h hq=>tZ wr F v1 (QT++[fe 0]) NT 6 2147483648 h (by simp;omega)
 have HPo:Hid (∀w' v',WrS w' F v' (QT++[fe 0]++[jQ 2147483648]) NT->KW F w w'->fl F (QT++[fe 0]++[jQ 2147483648]) NT w (.returned (.tuple #[])) w'):=fun w' v' h2 h3=>⟨rfl,⟨v',h2⟩,h3⟩
 clear hit hQT hNT hS hs hb0 hE hbq hbn;have hm0:es.length<=cap:=hcap;generalize es.length=m at*;go_enter Tryz.func26,Tryz.ntmps26;by_cases hm:m=0
 ·have HST:Hid (PoP w0 w w F QT NT a m cap):=HS0.out hm;subst hm;clear HL4 HSt HS0;go_wp2_with fail;go_loopw [1,4](fun t c wr=>∃(av:Option Addr)(m' c':Nat),t=.slice av m' c'∧Hid (PoP w0 w wr F QT NT av m' c'))(fun t _ _=>qA t)
  case atStart=>exact⟨_,_,_,rfl,HST⟩
  case round=>
   obtain⟨av,m',c',rfl,hPP⟩:=hrel;obtain⟨k,es',v1,q,n,rfl,hP⟩:=hPP.out;by_cases hl:0<es'.length
   ·obtain⟨b,o,rfl,hsr⟩:=hP.src hl;obtain⟨k',rfl⟩:∃k',k=k'+1:=⟨k-1,by have:=hP.fuel;omega⟩;have hsp:=kK hl;have hsl:=kR es';have hcc:=hP.cap;have hbb:=hP.bq;have hbm:=hP.bn;have hss:=fX es' (ew es');have ht:(es'.take (ew es')).length=ew es':=by simp;omega
    have hg0:(es'.take (ew es')).getD 0 E.zero=es'.getD 0 E.zero:=by
     rw[aa,bP,if_pos (by omega),<-aa]
    have HSA:Hid (Calls Tryz.prog 56 #[.slice (some ⟨b,o,none⟩) es'.length c'] wr fun e w'=>e=.returned (.int .i64 (ew es':Int))∧Below wr.heap.size wr w'):=sh w0 wr es' b o c' hsr (HBw.out wr hP.kw) hl (by omega);have HAr:Hid (∀w1,Below wr.heap.size wr w1->Calls Tryz.prog 57 #[.pointer (some ⟨F,0,none⟩),.slice (some ⟨b,o,none⟩) (ew es') c'] w1 fun e w'=>e=.returned (.tuple #[])∧Hid (∃v2 q2 n2,PoS w0 w w' F QT NT (if c'=ew es' then some ⟨b,o,none⟩else some ⟨b,o+ew es'*3,none⟩) (c'-ew es') k' (es'.drop (ew es')) v2 q2 n2)):=fun w1 hb1=>by
     have hK1:KW F wr w1:=KW.gG hb1 (bJ hP.hw.lt);have:=wT w0 w1 F hF (ew es') v1 q n (es'.take (ew es')) b o c' (hP.hw.ey hb1) (hsr.front _) (HBw.out w1 (hP.kw.trans hK1)) (fun e he=>hP.ok e (aB he)) (by omega) (by omega) (by omega) (by rw[ht];omega) hbm.1 (by rw[ht];omega);rw[ht,hg0]at this;refine this.mono ?_;rintro e w'⟨r1,⟨v2,r2⟩,r3⟩;exact⟨r1,v2,_,_,hP.next hl r2 (hK1.trans r3)⟩
    have hlen:(es'.drop (ew es')).length=es'.length-ew es':=by simp
    have HLn:Hid ((es'.drop (ew es')).length=es'.length-ew es'):=hlen;have hc1:((ew es':Nat):Int)<=(c':Int):=by omega
    have hc2:((ew es':Nat):Int)<=(es'.length:Int):=by omega
    have hc3:(0:Int)<(es'.length:Int):=by omega
    clear hP hPP hsr hbb hbm hss ht hg0 hlen HST HPo HEnd1 HEnd2;generalize ew es'=s at*;by_cases hcs:c'=s
    ·rw[if_pos hcs]at HAr;subst hcs;generalize es'.drop c'=ds at*;generalize es'.length=L at*;go_wp2_with fail;refine(HSA.out).mono ?_;rintro _ w1⟨rfl,hb1⟩;go_wp2_with fail;refine(HAr.out w1 hb1).mono ?_;rintro _ w2⟨rfl,hP2⟩;clear HSA HAr hb1;go_wp2;go_roundw
     case rel=>obtain⟨v2,q2,n2,h⟩:=hP2.out;rw[du]at h;exact⟨_,_,_,rfl,⟨k',ds,v2,q2,n2,(by have:=HLn.out;omega),h⟩⟩
     case measure=>first|(simp[qA];omega)|simp[qA]
    rw[if_neg hcs]at HAr;generalize es'.drop s=ds at*;generalize es'.length=L at*;go_wp2_with fail;refine(HSA.out).mono ?_;rintro _ w1⟨rfl,hb1⟩;go_wp2_with fail;refine(HAr.out w1 hb1).mono ?_;rintro _ w2⟨rfl,hP2⟩;clear HSA HAr hb1;go_wp2;go_roundw
    case rel=>obtain⟨v2,q2,n2,h⟩:=hP2.out;exact⟨_,_,_,rfl,⟨k',ds,v2,q2,n2,(by have:=HLn.out;omega),h⟩⟩
    case measure=>first|(simp[qA];omega)|simp[qA]
   have hl0:es'.length=0:=by omega
   obtain⟨rfl,rfl⟩:=hP.done hl0;have hbb:=hP.bq;have HWr:Hid (WrS wr F v1 q n):=hP.hw;have HKr:Hid (KW F w wr):=hP.kw;rw[hl0];clear hP hPP HST hl hl0;go_wp2_with fail;refine(HEnd1.out _ v1 HWr.out (by omega)).mono ?_;rintro _ w1⟨rfl,⟨v2,hS2⟩,hK2⟩;go_wp2_with fail;refine(HEnd2.out _ v2 hS2 (by omega)).mono ?_;rintro _ w2⟨rfl,⟨v3,hS3⟩,hK3⟩;have HF:Hid (fl F (q++[fe 0]++[jQ 2147483648]) n w (.returned (.tuple #[])) w2):=HPo.out w2 v3 hS3 ((HKr.out.trans hK2).trans hK3);clear hS2 hS3 hK2 hK3 HEnd1 HEnd2 HPo HWr HKr;go_wp2;go_end0;exact HF.out
 have hm1:(0:Int)<(m:Int):=by omega
 have hm2:0<m:=by omega
 go_wp2_with fail;refine(HL4.out).mono ?_;rintro _ wa⟨rfl,⟨va,hSa⟩,hKa⟩;have HST:Hid (PoP w0 w wa F QT NT a m cap):=HSt.out wa va hm2 hSa hKa;clear HL4 HSt HS0 hSa hKa hm;go_wp2_with fail;go_loopw [1,4](fun t c wr=>∃(av:Option Addr)(m' c':Nat),t=.slice av m' c'∧Hid (PoP w0 w wr F QT NT av m' c'))(fun t _ _=>qA t)
 case atStart=>exact⟨_,_,_,rfl,HST⟩
 case round=>
  obtain⟨av,m',c',rfl,hPP⟩:=hrel;obtain⟨k,es',v1,q,n,rfl,hP⟩:=hPP.out;by_cases hl:0<es'.length
  ·obtain⟨b,o,rfl,hsr⟩:=hP.src hl;obtain⟨k',rfl⟩:∃k',k=k'+1:=⟨k-1,by have:=hP.fuel;omega⟩;have hsp:=kK hl;have hsl:=kR es';have hcc:=hP.cap;have hbb:=hP.bq;have hbm:=hP.bn;have hss:=fX es' (ew es');have ht:(es'.take (ew es')).length=ew es':=by simp;omega
   have hg0:(es'.take (ew es')).getD 0 E.zero=es'.getD 0 E.zero:=by
    rw[aa,bP,if_pos (by omega),<-aa]
   have HSA:Hid (Calls Tryz.prog 56 #[.slice (some ⟨b,o,none⟩) es'.length c'] wr fun e w'=>e=.returned (.int .i64 (ew es':Int))∧Below wr.heap.size wr w'):=sh w0 wr es' b o c' hsr (HBw.out wr hP.kw) hl (by omega);have HAr:Hid (∀w1,Below wr.heap.size wr w1->Calls Tryz.prog 57 #[.pointer (some ⟨F,0,none⟩),.slice (some ⟨b,o,none⟩) (ew es') c'] w1 fun e w'=>e=.returned (.tuple #[])∧Hid (∃v2 q2 n2,PoS w0 w w' F QT NT (if c'=ew es' then some ⟨b,o,none⟩else some ⟨b,o+ew es'*3,none⟩) (c'-ew es') k' (es'.drop (ew es')) v2 q2 n2)):=fun w1 hb1=>by
    have hK1:KW F wr w1:=KW.gG hb1 (bJ hP.hw.lt);have:=wT w0 w1 F hF (ew es') v1 q n (es'.take (ew es')) b o c' (hP.hw.ey hb1) (hsr.front _) (HBw.out w1 (hP.kw.trans hK1)) (fun e he=>hP.ok e (aB he)) (by omega) (by omega) (by omega) (by rw[ht];omega) hbm.1 (by rw[ht];omega);rw[ht,hg0]at this;refine this.mono ?_;rintro e w'⟨r1,⟨v2,r2⟩,r3⟩;exact⟨r1,v2,_,_,hP.next hl r2 (hK1.trans r3)⟩
   have hlen:(es'.drop (ew es')).length=es'.length-ew es':=by simp
   have HLn:Hid ((es'.drop (ew es')).length=es'.length-ew es'):=hlen;have hc1:((ew es':Nat):Int)<=(c':Int):=by omega
   have hc2:((ew es':Nat):Int)<=(es'.length:Int):=by omega
   have hc3:(0:Int)<(es'.length:Int):=by omega
   clear hP hPP hsr hbb hbm hss ht hg0 hlen HST HPo HEnd1 HEnd2;generalize ew es'=s at*;by_cases hcs:c'=s
   ·rw[if_pos hcs]at HAr;subst hcs;generalize es'.drop c'=ds at*;generalize es'.length=L at*;go_wp2_with fail;refine(HSA.out).mono ?_;rintro _ w1⟨rfl,hb1⟩;go_wp2_with fail;refine(HAr.out w1 hb1).mono ?_;rintro _ w2⟨rfl,hP2⟩;clear HSA HAr hb1;go_wp2;go_roundw
    case rel=>obtain⟨v2,q2,n2,h⟩:=hP2.out;rw[du]at h;exact⟨_,_,_,rfl,⟨k',ds,v2,q2,n2,(by have:=HLn.out;omega),h⟩⟩
    case measure=>first|(simp[qA];omega)|simp[qA]
   rw[if_neg hcs]at HAr;generalize es'.drop s=ds at*;generalize es'.length=L at*;go_wp2_with fail;refine(HSA.out).mono ?_;rintro _ w1⟨rfl,hb1⟩;go_wp2_with fail;refine(HAr.out w1 hb1).mono ?_;rintro _ w2⟨rfl,hP2⟩;clear HSA HAr hb1;go_wp2;go_roundw
   case rel=>obtain⟨v2,q2,n2,h⟩:=hP2.out;exact⟨_,_,_,rfl,⟨k',ds,v2,q2,n2,(by have:=HLn.out;omega),h⟩⟩
   case measure=>first|(simp[qA];omega)|simp[qA]
  have hl0:es'.length=0:=by omega
  obtain⟨rfl,rfl⟩:=hP.done hl0;have hbb:=hP.bq;have HWr:Hid (WrS wr F v1 q n):=hP.hw;have HKr:Hid (KW F w wr):=hP.kw;rw[hl0];clear hP hPP HST hl hl0;go_wp2_with fail;refine(HEnd1.out _ v1 HWr.out (by omega)).mono ?_;rintro _ w1⟨rfl,⟨v2,hS2⟩,hK2⟩;go_wp2_with fail;refine(HEnd2.out _ v2 hS2 (by omega)).mono ?_;rintro _ w2⟨rfl,⟨v3,hS3⟩,hK3⟩;have HF:Hid (fl F (q++[fe 0]++[jQ 2147483648]) n w (.returned (.tuple #[])) w2):=HPo.out w2 v3 hS3 ((HKr.out.trans hK2).trans hK3);clear hS2 hS3 hK2 hK3 HEnd1 HEnd2 HPo HWr HKr;go_wp2;go_end0;exact HF.out
end Go.Proofs.YtdihdapmphkhpaaGreat
namespace Go.Proofs.YtdihdapmphkhpaaGreat
variable{l:List It}{s:List I×Mk}
def lC(l:List It):Option (List I×Mk):=foJ l ([],fun _=>none)
theorem sF(x:It)(l:List It):lC (x::l)=match lC l with|none=>none|some s=>stJ x s:=by
 unfold lC;simp only[foJ]
 cases foJ l ([],fun _=>none)<;>rfl
theorem qd{i:Nat}(h:i<l.length):lC (l.drop i)=match lC (l.drop (i+1))with|none=>none|some s=>stJ (l.getD i It.zero) s:=by
 have e:l.drop i=l.getD i It.zero::l.drop (i+1):=by
  rw[cw h,aa,ag h];rfl
 rw[e];exact sF _ _
theorem xm{x:It}{t:List I×Mk}(h:stJ x s=some t)(hm:∀k a,s.2 k=some a->a<=s.1.length):(∃e,t.1=s.1++e∧e.length<=2)∧∀k a,t.2 k=some a->a<=t.1.length:=by
 unfold stJ at h;split at h
 ·cases h;exact⟨⟨[x.ins],rfl,by simp⟩,fun k a hk=>by have:=hm k a hk;simp;omega⟩
 split at h
 ·cases h;refine⟨⟨[],by simp,by simp⟩,fun k a hk=> ?_⟩;simp only at hk;split at hk
  ·cases hk;exact ae _
  exact hm k a hk
 split at h
 ·cases h
 cases h;exact⟨⟨_,rfl,(CP _ _).2⟩,fun k a hk=>by have:=hm k a hk;simp;omega⟩
theorem qL(h:lC l=some s):(∀k a,s.2 k=some a->a<=s.1.length)∧s.1.length<=l.length*2:=by
 induction l generalizing s with
 |nil=>cases h;exact⟨(fun k a hk=>by cases hk),by simp⟩
 |cons x l ih=>
  rw[sF]at h
  cases h0:lC l with
  |none=>rw[h0]at h;cases h
  |some t=>
   rw[h0]at h;obtain⟨h1,h2⟩:=ih h0;obtain⟨⟨e,h3,h4⟩,h5⟩:=xm h h1;exact⟨h5,by rw[h3,aj,aq];omega⟩
theorem wU(h:lC l=some s)(i:Nat):∃t,lC (l.drop i)=some t∧t.1.length<=s.1.length:=by
 induction l generalizing s i with
 |nil=>exact⟨s,by simpa using h,ae _⟩
 |cons x l ih=>
  cases i with
  |zero=>exact⟨s,h,ae _⟩
  |succ i=>
   rw[sF]at h
   cases h0:lC l with
   |none=>rw[h0]at h;cases h
   |some t=>
    rw[h0]at h;obtain⟨⟨e,h3,_⟩,_⟩:=xm h (qL h0).1;obtain⟨u,h5,h6⟩:=ih h0 i;exact⟨u,h5,by rw[h3,aj];omega⟩
def qz(l:List It):Int:=match lC l with|none=>1|some s=>if s.1.length<=4096 then 0 else 10
def qq(l:List It):List I:=match lC l with|none=>[]|some s=>if s.1.length<=4096 then s.1.reverse else []
theorem Il(h:lC l=some s)(hn:s.1.length<=4096):qz l=0∧qq l=s.1.reverse:=by unfold qz qq;rw[h];simp only;rw[if_pos hn,if_pos hn];exact⟨rfl,rfl⟩
theorem G5(h:lC l=some s)(hn:4096<s.1.length):qz l=10∧qq l=[]:=by unfold qz qq;rw[h];simp only;rw[if_neg (by omega),if_neg (by omega)];exact⟨rfl,rfl⟩
theorem Co(p:List E):(∃s,lC (js p)=some s)∧qz (js p)=tR (iY p)∧qq (js p)=sH (iY p):=by
 obtain⟨out,m,m',h1,h2⟩:=wO p;have h1':lC (js p)=some (out,m):=h1;refine⟨⟨_,h1'⟩,?_⟩;unfold qz qq tR sH;rw[h1',h2];exact⟨rfl,rfl⟩
end Go.Proofs.YtdihdapmphkhpaaGreat
namespace Go.Proofs.YtdihdapmphkhpaaGreat
open Go.RowKit
variable{B:Nat}{Q:Exit->Act->World->Prop}{W0 w:World}{a:Act}{l:List It}{o:Oper}{ops:Array Oper}{rest:List Oper}{v:Value}
theorem Dc(y:It):∀u∈itC y,u.oneCell'=true:=by
 intro u hu;simp only[itC,bF,cM,or_false]at hu;rcases hu with rfl|rfl|rfl|rfl|rfl|rfl<;>rfl
theorem zA(l:List It):∀u∈jA l,u.oneCell'=true:=by
 intro u hu;obtain⟨y,_,h⟩:=cD.1 hu;exact Dc y u h
theorem uo(p q:List It):jA (p++q)=jA p++jA q:=by simp[jA]
theorem Ao(w:World)(hgd:o.guard=none)(s x:Operand)
 (ho:o.op=.call {callee:=.builtin .append,args:= #[s,x],argTypes:= #[60,60]})
 (B:Nat)(v:Value)(l:List It)(hs:a.eval s=v)(hown:gT w B v l)(A:Nat)(y:It)(hx:a.eval x=.slice (some ⟨A,0,none⟩) 1 1)
 (hc:∀j u,(itC y)[j]? =some u->w.cell? ((⟨A,0,none⟩:Addr).add j)=some u)(hn:l.length<=1000000)(hB:B<=w.heap.size)
 (h:∀v' w',gT w' B v' (l++[y])->Below B w w'->wpList Tryz.prog ops Q rest (a.put o.dst v') w'):wpList Tryz.prog ops Q (o::rest) a w:=by
 obtain⟨i0,hi,hz0,hz1,hz2⟩:=info_parts mr
 have hbm:l.length+1<=maxLen:=by unfold maxLen;omega
 have hbd:(l.length+1)*24<=140737488355328:=by omega
 refine wpList_append_own w hgd s x 60 ho B 91 i0 _ 6 24 Tryz.underlying60 hi hz0 hz1 hz2 rfl (by decide) v l.length (jA l) hs hown ⟨A,0,none⟩ 1 1 (itC y) hx rfl hc (Dc y) hbm hbd hB ?_
 intro v' w' ow gr _
 refine h v' w' ?_ ((af B w).grown gr hB (fun t ht=>(bO hown t ht).1))
 unfold gT
 rw[uo,aj]
 have e:jA [y]=itC y:=by simp[jA]
 rw[e];exact ow
theorem zo(w:World)(hgd:o.guard=none)(s x:Operand)
 (ho:o.op=.call {callee:=.builtin .append,args:= #[s,x],argTypes:= #[60,60]})
 (B:Nat)(v:Value)(l:List It)(hs:a.eval s=v)(hown:gT w B v l)(u:Value)(m:List It)(B2:Nat)(hx:a.eval x=u)
 (hsrc:gT w B2 u m)(hn:l.length+m.length<=1000000)(hB:B<=w.heap.size)
 (h:∀v' w',gT w' B v' (l++m)->Below B w w'->wpList Tryz.prog ops Q rest (a.put o.dst v') w'):wpList Tryz.prog ops Q (o::rest) a w:=by
 obtain⟨i0,hi,hz0,hz1,hz2⟩:=info_parts mr
 have h0:=hsrc
 obtain⟨hl,⟨rfl,hm⟩|⟨g,cap,cur,rfl,hb,hgc,hcap,hm2,hs2,hx2⟩⟩:=hsrc
 ·have:m=[]:=aM hm
  subst this
  refine wpList_append_own_none hgd s x 60 ho B 91 i0 6 Tryz.underlying60 hi v l.length (jA l) hs hown hx (h v w ?_ (af _ _))
  rw[bM];exact hown
 ·have hbm:l.length+m.length<=maxLen:=by unfold maxLen;omega
  have hbd:(l.length+m.length)*24<=140737488355328:=by omega
  refine wpList_append_own w hgd s x 60 ho B 91 i0 _ 6 24 Tryz.underlying60 hi hz0 hz1 hz2 rfl (by decide) v l.length (jA l) hs hown ⟨g,0,none⟩ m.length cap (jA m) hx (nw m) (fun j u hj=> ?_) (zA m) hbm hbd hB ?_
  ·have hjl:j<(jA m).length:=(cS.1 hj).1
   have:=bE h0 j (by rw[<-nw];exact hjl)
   rw[<-hj,<-this]
   simp only[Addr.add,aC]
   split
   ·rename_i hz;rw[hz]
   ·rfl
  ·intro v' w' ow gr _
   refine h v' w' ?_ ((af B w).grown gr hB (fun t ht=>(bO hown t ht).1))
   unfold gT
   rw[uo,aj]
   exact ow
theorem lM(w:World)(B:Nat)(y:It)(hB:B<=w.heap.size):gT (w.alloc (.cells #[.int .i64 y.kind,.int .u16 y.ins.c,.int .u8 y.ins.jt,.int .u8 y.ins.jf,.int .u32 y.ins.k,.int .i64 y.target] 91)) B (.slice (some ⟨w.heap.size,0,none⟩) 1 1) [y]:=
 ⟨rfl,.inr ⟨w.heap.size,1,_,rfl,hB,heap_alloc_new _ _,ae _,by unfold maxLen;omega,rfl,rfl⟩⟩
structure gy(W0:World)(B:Nat)(W:World)(v:Value)(q:List It):Prop where
 b:Below B W0 W
 o:gT W B v q
 h:B<=W.heap.size
theorem gy.call{W W1:World}{q:List It}(a:gy W0 B W v q)(hb:Below W.heap.size W W1):gy W0 B W1 v q:=⟨a.b.trans (hb.mono a.h),tm a.o hb,aW a.h hb.size⟩
theorem gy.alloc{W0 W:World}{B:Nat}{v:Value}{q:List It}(a:gy W0 B W v q)(x:Obj):gy W0 B (W.alloc x) v q:=a.call ((af _ _).alloc (ae _) x)
theorem gy.nil(h:B<=W0.heap.size):gy W0 B W0 (.slice none 0 0) []:=⟨af _ _,aZ _ _ _ _,h⟩
theorem eC(hgd:o.guard=none)(s x:Operand)
 (ho:o.op=.call {callee:=.builtin .append,args:= #[s,x],argTypes:= #[60,60]})
 (hA:gy W0 B w v l)(hs:a.eval s=v)(A:Nat)(y:It)(hx:a.eval x=.slice (some ⟨A,0,none⟩) 1 1)
 (hc:∀j u,(itC y)[j]? =some u->w.cell? ((⟨A,0,none⟩:Addr).add j)=some u)(hn:l.length<=1000000)
 (h:∀v' w',gy W0 B w' v' (l++[y])->wpList Tryz.prog ops Q rest (a.put o.dst v') w'):wpList Tryz.prog ops Q (o::rest) a w:=
 Ao w hgd s x ho B v l hs hA.o A y hx hc hn hA.h fun v' w' h1 h2=>h v' w' ⟨hA.b.trans h2,h1,aW hA.h h2.size⟩
theorem jv(hgd:o.guard=none)(s x:Operand)
 (ho:o.op=.call {callee:=.builtin .append,args:= #[s,x],argTypes:= #[60,60]})
 (hA:gy W0 B w v l)(hs:a.eval s=v)(u:Value)(m:List It)(B2:Nat)(hx:a.eval x=u)(hsrc:gT w B2 u m)(hn:l.length+m.length<=1000000)
 (h:∀v' w',gy W0 B w' v' (l++m)->wpList Tryz.prog ops Q rest (a.put o.dst v') w'):wpList Tryz.prog ops Q (o::rest) a w:=
 zo w hgd s x ho B v l hs hA.o u m B2 hx hsrc hn hA.h fun v' w' h1 h2=>h v' w' ⟨hA.b.trans h2,h1,aW hA.h h2.size⟩
theorem Dz{Kk:Act->World->Prop}{Ee:Prop}(hgd:o.guard=none)(s x:Operand)
 (ho:o.op=.call {callee:=.builtin .append,args:= #[s,x],argTypes:= #[60,60]})
 (hA:gy W0 B w v l)(hs:a.eval s=v)(u:Value)(m:List It)(B2:Nat)(hx:a.eval x=u)(hsrc:gT w B2 u m)(hm:0<m.length)(hn:l.length+m.length<=1000000)
 (h:∀v' w',gy W0 B w' v' (l++m)->Kk (a.put o.dst v') w'):if Region.wanted o (yielded ops a.tmps)=true then Oper.wp Tryz.prog o a w Kk Q else Ee:=by
 obtain⟨i0,hi,hz0,hz1,hz2⟩:=info_parts mr
 have h0:=hsrc
 obtain⟨g,cap,rfl,_,_⟩:=World.ownsRow.form hsrc hm
 have hbm:l.length+m.length<=maxLen:=by unfold maxLen;omega
 have hbd:(l.length+m.length)*24<=140737488355328:=by omega
 refine step_append_lies w hgd s x 60 ho B 91 i0 _ 6 24 Tryz.underlying60 hi hz0 hz1 hz2 rfl (by decide) v l.length (jA l) hs hA.o ⟨g,0,none⟩ m.length cap (jA m) hx (nw m) (fun j u hj=> ?_) (zA m) hm hbm hbd hA.h _ rfl ?_
 ·have hjl:j<(jA m).length:=(cS.1 hj).1
  have:=bE h0 j (by rw[<-nw];exact hjl)
  rw[<-hj,<-this]
  simp only[Addr.add,aC]
  split
  ·rename_i hz;rw[hz]
  ·rfl
 ·intro g' cap' w' ow gr _ _
  have hb:=(af B w).grown gr hA.h (fun t ht=>(bO hA.o t ht).1)
  refine h _ w' ⟨hA.b.trans hb,?_,aW hA.h hb.size⟩
  unfold gT
  rw[uo,aj]
  exact ow
def gK(l:List It)(w:World)(e:Ending)(w':World):Prop:=∃v,e=.returned v∧gT w' w.heap.size v l∧Below w.heap.size w w'
theorem gy.post{w':World}{q:List It}(a:gy W0 B w' v q)(h:Below w.heap.size w W0)(hB:w.heap.size<=B)(e:q=l):gK l w (.returned v) w':=⟨v,rfl,e▸World.ownsRow.mono a.o hB,h.trans (a.b.mono hB)⟩
def K3(c:K):Prop:=c.kind=0∨c.kind=1∨c.kind=2
theorem fP{W:World}{y:It}{A:Nat}(h:A=W.heap.size):∀j u,(itC y)[j]? =some u->(W.alloc (.cells #[.int .i64 y.kind,.int .u16 y.ins.c,.int .u8 y.ins.jt,.int .u8 y.ins.jf,.int .u32 y.ins.k,.int .i64 y.target] 91)).cell? ((⟨A,0,none⟩:Addr).add j)=some u:=
 iZ (cs:=itC y) h
theorem qm(c k:Int)(w:World):Calls Tryz.prog 44 #[.int .u16 c,.int .u32 k] w fun e w'=>e=.returned (itV (jr c k))∧Below w.heap.size w w':=by
 go_enter Tryz.func44,Tryz.ntmps44;go_wp2;refine bodyPost_ret (v:=itV (jr c k)) (by simp[results,Tryz.results44,go_sem,jr]) rfl ⟨rfl,?_⟩;exact(af _ _).alloc (ae _) _
theorem rh(a:Int)(w:World)(h0:0<=a)(h1:a<=1000):Calls Tryz.prog 45 #[.int .i64 a] w fun e w'=>e=.returned (itV (fi a))∧Below w.heap.size w w':=by
 have hw:IntKind.u32.wrap a=a:=by rw[IntKind.wrap_u32'];omega
 have HB:Hid (Below w.heap.size w ((w.alloc (.cells #[.int .i64 0,.int .u16 0,.int .u8 0,.int .u8 0,.int .u32 0,.int .i64 0] 91)))):=(af _ _).alloc (ae _) _;have X:=wB.new w 91 (.int .i64 0) (.int .u16 0) (.int .u8 0) (.int .u8 0) (.int .u32 0) (.int .i64 0);have HI:Hid (∀w1,Calls Tryz.prog 44 #[.int .u16 32,.int .u32 a] w1 fun e w'=>e=.returned (itV (fi a))∧Below w1.heap.size w1 w'):=fun w1=>qm 32 a w1
 go_enter Tryz.func45,Tryz.ntmps45;go_wp2_with fail;refine(HI.out _).mono ?_;generalize w.alloc (.cells #[.int .i64 0,.int .u16 0,.int .u8 0,.int .u8 0,.int .u32 0,.int .i64 0] 91)=W at*;rintro _ w1⟨rfl,hb1⟩;obtain⟨ol,o0,o1,o2,o3,o4,o5,of⟩:=X.ey hb1;have of0:=of 0;have of1:=of 1;have of2:=of 2;have of3:=of 3;have of4:=of 4;have of5:=of 5;have HB1:Hid (Below w.heap.size w w1):=eo hb1 HB.out;clear X of hb1 HB HI;simp only[itV,fi,jr];go_wp2;refine bodyPost_ret (v:=itV (fi a)) (by simp[results,Tryz.results45,go_sem,fi,jr,o0,o1,o2,o3,o4,o5]) rfl ⟨rfl,?_⟩;exact Av HB1.out (ae _) 0 _ _ _ _ _ _
theorem mh(kd c k t:Int)(w:World):Calls Tryz.prog 46 #[.int .i64 kd,.int .u16 c,.int .u32 k,.int .i64 t] w fun e w'=>e=.returned (itV ⟨kd,⟨c,0,0,k⟩,t⟩)∧Below w.heap.size w w':=by
 go_enter Tryz.func46,Tryz.ntmps46;go_wp2;refine bodyPost_ret (v:=itV ⟨kd,⟨c,0,0,k⟩,t⟩) (by simp[results,Tryz.results46,go_sem]) rfl ⟨rfl,?_⟩;exact(af _ _).alloc (ae _) _
theorem mL(t:Int)(w:World):Calls Tryz.prog 48 #[.int .i64 t] w fun e w'=>e=.returned (itV (fe t))∧Below w.heap.size w w':=by
 go_enter Tryz.func48,Tryz.ntmps48;go_wp2;refine bodyPost_ret (v:=itV (fe t)) (by simp[results,Tryz.results48,go_sem,fe]) rfl ⟨rfl,?_⟩;exact(af _ _).alloc (ae _) _
theorem Bt(a m b fail:Int)(w:World)(h0:0<=a)(h1:a<=1000):Calls Tryz.prog 139 #[.int .i64 a,.int .u32 m,.int .u32 b,.int .i64 fail] w fun e w'=>gK (ig a m b fail) w e w':=by
 have HL:Hid (∀w1,Calls Tryz.prog 45 #[.int .i64 a] w1 fun e w'=>e=.returned (.agg #[.int .i64 0,.int .u16 32,.int .u8 0,.int .u8 0,.int .u32 a,.int .i64 0])∧Below w1.heap.size w1 w'):=fun w1=>rh a w1 h0 h1
 have HI:Hid (∀w1,Calls Tryz.prog 44 #[.int .u16 84,.int .u32 m] w1 fun e w'=>e=.returned (.agg #[.int .i64 0,.int .u16 84,.int .u8 0,.int .u8 0,.int .u32 m,.int .i64 0])∧Below w1.heap.size w1 w'):=fun w1=>qm 84 m w1
 have HT:Hid (∀w1,Calls Tryz.prog 46 #[.int .i64 2,.int .u16 21,.int .u32 b,.int .i64 fail] w1 fun e w'=>e=.returned (.agg #[.int .i64 2,.int .u16 21,.int .u8 0,.int .u8 0,.int .u32 b,.int .i64 fail])∧Below w1.heap.size w1 w'):=fun w1=>mh 2 21 b fail w1
 have HP:Hid (∀w1 v q,gy w w.heap.size w1 v q->q=ig a m b fail->gK (ig a m b fail) w (.returned v) w1):=fun w1 v q h e=>h.post (af _ _) (ae _) e
 have HE0:Hid (m=0->[]=ig a m b fail):=fun h=>by unfold ig;rw[if_pos h]
 have HE1:Hid (m≠0->m=4294967295->[fi a]++[fq 21 b fail]=ig a m b fail):=fun h h'=>by unfold ig;rw[if_neg h,if_pos h'];simp
 have HE2:Hid (m≠0->m≠4294967295->[fi a]++[jr 84 m]++[fq 21 b fail]=ig a m b fail):=fun h h'=>by unfold ig;rw[if_neg h,if_neg h'];simp
 generalize ig a m b fail=ml at*;go_enter Tryz.func139,Tryz.ntmps139;by_cases hm:m=0
 ·have HF:Hid (gK ml w (.returned (.slice none 0 0)) w):=HP.out w _ _ (gy.nil (ae _)) (HE0.out hm);subst hm;clear HL HI HT HP HE0 HE1 HE2;go_wp2;go_ret;exact HF.out
 have hm':(m==0)=false:=by simpa using hm
 by_cases hx:m=4294967295
 ·have HE:Hid ([fi a]++[fq 21 b fail]=ml):=HE1.out hm hx;clear HE0 HE1 HE2 HI hm hm';subst hx;go_wp2_with fail;refine(HL.out _).mono ?_;rintro _ w1⟨rfl,hb1⟩;have A1:gy w w.heap.size (w1.alloc (.cells #[.int .i64 0,.int .u16 32,.int .u8 0,.int .u8 0,.int .u32 a,.int .i64 0] 91)) (.slice (some ⟨w1.heap.size,0,none⟩) 1 1) [fi a]:=⟨hb1.alloc hb1.size _,lM w1 _ (fi a) hb1.size,by simp;exact dp hb1.size⟩;clear hb1 HL;go_wp2_with fail;generalize w1.alloc (.cells #[.int .i64 0,.int .u16 32,.int .u8 0,.int .u8 0,.int .u32 a,.int .i64 0] 91)=V1 at*;generalize w1.heap.size=D1 at*;refine(HT.out _).mono ?_;rintro _ w2⟨rfl,hb2⟩;have A2:=A1.call hb2;clear A1 hb2 HT;go_wp2_with(at_builtin;refine eC rfl (.tmp 22) (.tmp 26) rfl (A2.alloc _) rfl _ (fq 21 b fail) rfl (fP (by simp)) (by simp) ?_);intro v3 w3 A3;have HF:Hid (gK ml w (.returned v3) w3):=HP.out w3 v3 _ A3 HE.out;clear A2 A3 HP HE;go_wp2;go_ret;exact HF.out
 have hx':(m==4294967295)=false:=by simpa using hx
 have HE:Hid ([fi a]++[jr 84 m]++[fq 21 b fail]=ml):=HE2.out hm hx;clear HE0 HE1 HE2;go_wp2_with fail;refine(HL.out _).mono ?_;rintro _ w1⟨rfl,hb1⟩;have A1:gy w w.heap.size (w1.alloc (.cells #[.int .i64 0,.int .u16 32,.int .u8 0,.int .u8 0,.int .u32 a,.int .i64 0] 91)) (.slice (some ⟨w1.heap.size,0,none⟩) 1 1) [fi a]:=⟨hb1.alloc hb1.size _,lM w1 _ (fi a) hb1.size,by simp;exact dp hb1.size⟩;clear hb1 HL;go_wp2_with fail;generalize w1.alloc (.cells #[.int .i64 0,.int .u16 32,.int .u8 0,.int .u8 0,.int .u32 a,.int .i64 0] 91)=V1 at*;generalize w1.heap.size=D1 at*;refine(HI.out _).mono ?_;rintro _ w2⟨rfl,hb2⟩;have A2:=A1.call hb2;clear A1 hb2 HI;go_wp2_with(at_builtin;refine eC rfl (.tmp 17) (.tmp 20) rfl (A2.alloc _) rfl _ (jr 84 m) rfl (fP (by simp)) (by simp) ?_);intro v3 w3 A3;clear A2;go_wp2_with fail;refine(HT.out _).mono ?_;rintro _ w4⟨rfl,hb4⟩;have A4:=A3.call hb4;clear A3 hb4 HT;go_wp2_with(at_builtin;refine eC rfl (.tmp 22) (.tmp 26) rfl (A4.alloc _) rfl _ (fq 21 b fail) rfl (fP (by simp)) (by simp) ?_);intro v5 w5 A5;have HF:Hid (gK ml w (.returned v5) w5):=HP.out w5 v5 _ A5 HE.out;clear A4 A5 HP HE;go_wp2;go_ret;exact HF.out
end Go.Proofs.YtdihdapmphkhpaaGreat
