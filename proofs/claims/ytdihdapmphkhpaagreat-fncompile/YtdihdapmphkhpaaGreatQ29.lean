import Derived.Test.YtdihdapmphkhpaaGreatQ19
import Derived.Test.YtdihdapmphkhpaaGreatQ24
set_option linter.all false
set_option maxRecDepth 200000
set_option maxHeartbeats 16000000
namespace Go.Proofs.YtdihdapmphkhpaaGreat
open Go.RowKit
variable{B b o:Nat}{c:K}{os:List (Ru×Value)}{v:Value}{w:World}
theorem Ae{a b:Int}(h:a<b):fM a b= -1:=if_pos h
theorem AP{a b:Int}(h:b<a):fM a b=1:=by unfold fM;rw[if_neg (by omega),if_pos h]
def l5(c d:K):Int:=if c.kind=d.kind then rG (fM c.a d.a) (fM c.b d.b)else c.kind-d.kind
theorem E4{d:K}(h:c.kind≠d.kind):l5 c d=c.kind-d.kind:=if_neg h
theorem ordM_a{k k':Int}{x y z v:Nat}(h:k=k')(h2:x≠z):l5 ⟨k,x,y⟩ ⟨k',z,v⟩=fM x z:=by
 unfold l5;rw[if_pos h];exact if_neg (fun e=>h2 (by have:(x:Int)=z:=sU e;omega))
theorem ordM_b{k k':Int}{x y z v:Nat}(h:k=k')(h2:x=z):l5 ⟨k,x,y⟩ ⟨k',z,v⟩=fM y v:=by
 unfold l5;rw[if_pos h];exact if_pos (by rw[h2];exact qa _)
theorem wY(c d:K):(l5 c d=0↔my c d=0)∧(l5 c d<0↔my c d<0):=by
 unfold l5 my;by_cases h:c.kind=d.kind
 ·rw[if_pos h,h,qa];simp[rG]
 rw[if_neg h];have h0:fM c.kind d.kind≠0:=fun e=>h (sU e)
 have e:∀y,rG (fM c.kind d.kind) y=fM c.kind d.kind:=fun y=>if_neg h0
 rw[e];refine⟨⟨fun h1=>by omega,fun h1=>absurd h1 h0⟩,?_⟩;rw[ua];omega
abbrev jL:Ru->Ru->Int:=j8 l5
theorem oe:∀(a b:Ru),(jL a b=0↔ie a b=0)∧(jL a b<0↔ie a b<0)
 |[],[]=>by simp[j8]
 |[],b::s=>by simp[j8]
 |a::r,[]=>by simp[j8]
 |a::r,b::s=>by
  have h:=wY a b;have h':=oe r s;simp only[jL,ie,j8]at*;by_cases e:l5 a b=0
  ·rw[if_pos e,if_pos (h.1.1 e)];exact h'
  rw[if_neg e,if_neg (fun g=>e (h.1.2 g))];exact h
theorem xf{α:Type}{ord:α->α->Int}{d:α}:∀{l m:List α}{i:Nat},i<l.length->i<m.length->j8 ord (l.drop i) (m.drop i)=if ord (l.getD i d) (m.getD i d)=0 then j8 ord (l.drop (i+1)) (m.drop (i+1))else ord (l.getD i d) (m.getD i d)
 |[],_,_,h,_=>by simp at h
 |_::_,[],_,_,h=>by simp at h
 |a::r,b::s,0,_,_=>by simp[j8]
 |a::r,b::s,i+1,h,h'=>by
  have:=xf (ord:=ord) (d:=d) (l:=r) (m:=s) (i:=i) (by simpa using h) (by simpa using h');simpa using this
theorem Ca{d:K}(hc:eI c=true)(hd:eI d=true): -2<=c.kind-d.kind∧c.kind-d.kind<=2:=by
 rcases K.gp hc with rfl|⟨a,b,rfl,h⟩|⟨a,b,rfl,h⟩<;>rcases K.gp hd with rfl|⟨a',b',rfl,h'⟩|⟨a',b',rfl,h'⟩<;>simp
theorem oJ(c d:K)(w:World)(hc:fZ c)(hd:fZ d):
 Calls Tryz.prog 119 #[fC c,fC d] w fun e w'=>e=.returned (.int .i64 (l5 c d))∧Below w.heap.size w w':=by
 have hs:=Ca hc.valid hd.valid;obtain⟨k,x,y⟩:=c;obtain⟨k',z,v⟩:=d;simp only at hs;clear hc hd;have B:∀o o',Below w.heap.size w ((w.alloc o).alloc o'):=fun o o'=>((af _ _).alloc (ae _) _).alloc (by simp) _
 by_cases h:k=k'
 ·subst h;by_cases h2:x=z
  ·rw[ordM_b rfl h2];subst h2;rcases dN y v with h3|h3|h3
   ·rw[Ae (by omega)];have h3':(y:Int)<v:=by omega
    clear hs;go_enter Tryz.func119,Tryz.ntmps119;go_wp2;go_ret;exact⟨rfl,B _ _⟩
   ·subst h3;rw[qa];clear hs;go_enter Tryz.func119,Tryz.ntmps119;go_wp2;go_ret;exact⟨rfl,B _ _⟩
   rw[AP (by omega)];have h3':¬(y:Int)<v:=by omega
   have h3'':(v:Int)<y:=by omega
   clear hs;go_enter Tryz.func119,Tryz.ntmps119;go_wp2;go_ret;exact⟨rfl,B _ _⟩
  rw[ordM_a rfl h2];have hb:((x:Int)!=(z:Int))=true:=by rw[bne_iff_ne];omega
  clear hs;by_cases h3:x<z
  ·rw[Ae (by omega)];have h3':(x:Int)<z:=by omega
   go_enter Tryz.func119,Tryz.ntmps119;go_wp2;go_ret;exact⟨rfl,B _ _⟩
  rw[AP (by omega)];have h3':¬(x:Int)<z:=by omega
  go_enter Tryz.func119,Tryz.ntmps119;go_wp2;go_ret;exact⟨rfl,B _ _⟩
 rw[E4 h];have hb:(k !=k')=true:=by simpa using h
 have hw:IntKind.i64.wrap (k-k')=k-k':=by simp only[aT];omega
 simp only;go_enter Tryz.func119,Tryz.ntmps119;go_wp2;go_ret;exact⟨rfl,B _ _⟩
theorem tH(r s:Ru)(a a':Option Addr)(cap cap':Nat)(w:World)(hs:eS 3 PK w a r)(hs':eS 3 PK w a' s)(hr:NR r)(hr':NR s):
 Calls Tryz.prog 85 #[.agg #[.slice a 6 cap],.agg #[.slice a' 6 cap']] w fun e w'=>e=.returned (.int .i64 (jL r s))∧Below w.heap.size w w':=by
 have HC:Hid (∀i,∀w,Calls Tryz.prog 119 #[fC (r.getD i K.zero),fC (s.getD i K.zero)] w fun e w'=>e=.returned (.int .i64 (l5 (r.getD i K.zero) (s.getD i K.zero)))∧Below w.heap.size w w'):=fun i w=>oJ _ _ w (hr.2 i) (hr'.2 i)
 have HS:Hid (∀i,i<6->jL (r.drop i) (s.drop i)=if l5 (r.getD i K.zero) (s.getD i K.zero)=0 then jL (r.drop (i+1)) (s.drop (i+1))else l5 (r.getD i K.zero) (s.getD i K.zero)):=fun i hi=>xf (by rw[hr.1];exact hi) (by rw[hr'.1];exact hi)
 have HE:Hid (jL (r.drop 6) (s.drop 6)=0):=by
  have e1:r.drop 6=[]:=List.drop_of_length_le (by rw[hr.1];exact ae 6)
  have e2:s.drop 6=[]:=List.drop_of_length_le (by rw[hr'.1];exact ae 6)
  show _=_
  rw[e1,e2];rfl
 have H0:Hid (jL r s=jL (r.drop 0) (s.drop 0)):=rfl
 have HP:Hid (∀wr,Below w.heap.size w wr->∀i,i<6->∃b o,a=some ⟨b,o,none⟩∧b<wr.heap.size∧PK wr b (o+i*3) (r.getD i K.zero)):=fun wr hB i hi=>(hs.below PK.stays hB).at (by rw[hr.1];exact hi) K.zero
 have HU:Hid (∀wr,Below w.heap.size w wr->∀i,i<6->∃b o,a'=some ⟨b,o,none⟩∧b<wr.heap.size∧PK wr b (o+i*3) (s.getD i K.zero)):=fun wr hB i hi=>(hs'.below PK.stays hB).at (by rw[hr'.1];exact hi) K.zero
 obtain⟨O,hO⟩:∃O:Nat->Int,∀i,jL (r.drop i) (s.drop i)=O i:=⟨_,fun _=>rfl⟩
 simp only[hO]at HS HE H0
 generalize jL r s=R at*
 clear hO hs hs' hr hr'
 have B:Below w.heap.size w ((w.alloc (.cells #[.slice a 6 cap] 57)).alloc (.cells #[.slice a' 6 cap'] 57)):=((af _ _).alloc (ae _) _).alloc (by simp) _
 have x0:((w.alloc (.cells #[.slice a 6 cap] 57)).alloc (.cells #[.slice a' 6 cap'] 57)).cell? ⟨w.heap.size,0,none⟩=some (.slice a 6 cap):=eh ((af _ _).alloc (ae _) _) (nZ w 57 (.slice a 6 cap))
 have y0:((w.alloc (.cells #[.slice a 6 cap] 57)).alloc (.cells #[.slice a' 6 cap'] 57)).cell? ⟨w.heap.size+1,0,none⟩=some (.slice a' 6 cap'):=by
  have:=nZ (w.alloc (.cells #[.slice a 6 cap] 57)) 57 (.slice a' 6 cap')
  rw[show(w.alloc (.cells #[.slice a 6 cap] 57)).heap.size=w.heap.size+1 by simp]at this
  exact this
 go_enter Tryz.func85,Tryz.ntmps85
 go_wp2_with fail
 generalize(w.alloc (.cells #[.slice a 6 cap] 57)).alloc (.cells #[.slice a' 6 cap'] 57)=W at*
 go_loopw [5](fun i wr=>∃k:Nat,k<=6∧i=.int .i64 k∧Hid (R=O k)∧wr.cell? ⟨w.heap.size,0,none⟩=some (.slice a 6 cap)∧wr.cell? ⟨w.heap.size+1,0,none⟩=some (.slice a' 6 cap')∧Below w.heap.size w wr)(fun i _=>6-(intOf i).toNat)
 case atStart=>exact⟨0,by omega,rfl,H0,x0,y0,B⟩
 case round=>
  clear B x0 y0 H0
  obtain⟨k,hk,rfl,HR,x0,y0,B⟩:=hrel
  rename World=>W0
  by_cases hk6:k<6
  ·obtain⟨b,o,rfl,hlt,c0,c1,c2⟩:=HP.out W0 B k hk6
   obtain⟨b',o',rfl,hlt',d0,d1,d2⟩:=HU.out W0 B k hk6
   have HC1:=HC.out k
   have HS1:Hid (R=if l5 (r.getD k K.zero) (s.getD k K.zero)=0 then O (k+1)else l5 (r.getD k K.zero) (s.getD k K.zero)):=HR.out.trans (HS.out k hk6)
   have hk6':(k:Int)<6:=by omega
   generalize l5 (r.getD k K.zero) (s.getD k K.zero)=Q at*
   generalize r.getD k K.zero=c at*
   generalize s.getD k K.zero=d at*
   obtain⟨ck,ca,cb⟩:=c
   obtain⟨dk,da,db⟩:=d
   simp only at c0 c1 c2 d0 d1 d2
   simp only[fC]at HC1
   have HC2:Hid (∀w,Calls Tryz.prog 119 #[.agg #[.int .i64 ck,.int .u64 (ca:Int),.int .u64 (cb:Int)],.agg #[.int .i64 dk,.int .u64 (da:Int),.int .u64 (db:Int)]] w fun e w'=>e=.returned (.int .i64 Q)∧Below w.heap.size w w'):=HC1
   clear HC HS HP HU HR HC1 HE
   obtain⟨S,hS⟩:∃S:World->Prop,S=fun w'=>Below w.heap.size w w'∧w'.cell? ⟨w.heap.size,0,none⟩=some (.slice (some ⟨b,o,none⟩) 6 cap)∧w'.cell? ⟨w.heap.size+1,0,none⟩=some (.slice (some ⟨b',o',none⟩) 6 cap')∧w'.cell? ⟨b,o+k*3,none⟩=some (.int .i64 ck)∧w'.cell? ⟨b,o+k*3+1,none⟩=some (.int .u64 (ca:Int))∧w'.cell? ⟨b,o+k*3+2,none⟩=some (.int .u64 (cb:Int))∧w'.cell? ⟨b',o'+k*3,none⟩=some (.int .i64 dk)∧w'.cell? ⟨b',o'+k*3+1,none⟩=some (.int .u64 (da:Int))∧w'.cell? ⟨b',o'+k*3+2,none⟩=some (.int .u64 (db:Int)):=⟨_,rfl⟩
   have SK:Hid (∀wa wb,Below wa.heap.size wa wb->S wa->S wb):=fun wa wb hb=>by
    subst hS
    exact fun⟨s,x,y,e1,e2,e3,e4,e5,e6⟩=>⟨eo hb s,eh hb x,eh hb y,eh hb e1,eh hb e2,eh hb e3,eh hb e4,eh hb e5,eh hb e6⟩
   have hS0:=SK.out W0 W0.drew ((af _ _).drew) (by subst hS;exact⟨B,x0,y0,c0,c1,c2,d0,d1,d2⟩)
   subst hS
   clear x0 y0 c0 c1 c2 d0 d1 d2 B
   go_wp2_with fail
   go_region_held3(fun w'=>Below w.heap.size w w'∧w'.cell? ⟨w.heap.size,0,none⟩=some (.slice (some ⟨b,o,none⟩) 6 cap)∧w'.cell? ⟨w.heap.size+1,0,none⟩=some (.slice (some ⟨b',o',none⟩) 6 cap')∧w'.cell? ⟨b,o+k*3,none⟩=some (.int .i64 ck)∧w'.cell? ⟨b,o+k*3+1,none⟩=some (.int .u64 (ca:Int))∧w'.cell? ⟨b,o+k*3+2,none⟩=some (.int .u64 (cb:Int))∧w'.cell? ⟨b',o'+k*3,none⟩=some (.int .i64 dk)∧w'.cell? ⟨b',o'+k*3+1,none⟩=some (.int .u64 (da:Int))∧w'.cell? ⟨b',o'+k*3+2,none⟩=some (.int .u64 (db:Int)))
    (assumption)
    (first|(go_at_call 119;refine(HC2.out _).mono ?_;rintro _ w9⟨rfl,hb9⟩;have hS9:=SK.out _ _ hb9 (by assumption)))
   all_goals
    obtain⟨B1,x1,y1,_,_,_,_,_,_⟩:=hS9
    clear hb9 hS0 SK
    by_cases hQ:Q=0
    ·subst hQ
     have HR2:Hid (R=O (k+1)):=HS1.out.trans (if_pos rfl)
     clear HS1
     go_wp2
     go_roundw
     case rel=>exact⟨k+1,by omega,by go_num,HR2,x1,y1,B1⟩
     case measure=>simp[intOf];omega
    ·have HR2:Hid (R=Q):=HS1.out.trans (if_neg hQ)
     have hb:(Q !=0)=true:=by simpa using hQ
     clear HS1 hQ
     go_wp2
     go_ret
     exact⟨fL HR2.out.symm,B1⟩
  ·have hk':k=6:=by omega
   subst hk'
   have HR2:Hid (R=0):=HR.out.trans HE.out
   go_wp2
   go_ret
   exact⟨fL HR2.out.symm,B⟩
theorem sN(r s:Ru)(a a':Option Addr)(cap cap':Nat)(w:World)(hs:eS 3 PK w a r)(hs':eS 3 PK w a' s)(hr:NR r)(hr':NR s):
 Calls Tryz.prog 86 #[.agg #[.slice a 6 cap],.agg #[.slice a' 6 cap']] w fun e w'=>e=.returned (.bool (fw r s))∧Below w.heap.size w w':=by
 have HC:Hid (∀i,∀w,Calls Tryz.prog 120 #[fC (r.getD i K.zero),fC (s.getD i K.zero)] w fun e w'=>e=.returned (.bool (fU (r.getD i K.zero) (s.getD i K.zero)))∧Below w.heap.size w w'):=fun i w=>yf _ _ _ w (hr.2 i).ok (hr.2 i).valid (hr'.2 i).ok (hr'.2 i).valid (pM (hr.2 i) (hr'.2 i))
 have HN:Hid (∀k,k<6->fU (r.getD k K.zero) (s.getD k K.zero)=false->fw r s=false):=fun k hk h=>uh hk h
 have HY:Hid ((∀k,k<6->fU (r.getD k K.zero) (s.getD k K.zero)=true)->fw r s=true):=(kW r s).2
 have HP:Hid (∀wr,Below w.heap.size w wr->∀i,i<6->∃b o,a=some ⟨b,o,none⟩∧b<wr.heap.size∧PK wr b (o+i*3) (r.getD i K.zero)):=fun wr hB i hi=>(hs.below PK.stays hB).at (by rw[hr.1];exact hi) K.zero
 have HU:Hid (∀wr,Below w.heap.size w wr->∀i,i<6->∃b o,a'=some ⟨b,o,none⟩∧b<wr.heap.size∧PK wr b (o+i*3) (s.getD i K.zero)):=fun wr hB i hi=>(hs'.below PK.stays hB).at (by rw[hr'.1];exact hi) K.zero
 generalize fw r s=R at*
 clear hs hs' hr hr'
 have B:Below w.heap.size w ((w.alloc (.cells #[.slice a 6 cap] 57)).alloc (.cells #[.slice a' 6 cap'] 57)):=((af _ _).alloc (ae _) _).alloc (by simp) _
 have x0:((w.alloc (.cells #[.slice a 6 cap] 57)).alloc (.cells #[.slice a' 6 cap'] 57)).cell? ⟨w.heap.size,0,none⟩=some (.slice a 6 cap):=eh ((af _ _).alloc (ae _) _) (nZ w 57 (.slice a 6 cap))
 have y0:((w.alloc (.cells #[.slice a 6 cap] 57)).alloc (.cells #[.slice a' 6 cap'] 57)).cell? ⟨w.heap.size+1,0,none⟩=some (.slice a' 6 cap'):=by
  have:=nZ (w.alloc (.cells #[.slice a 6 cap] 57)) 57 (.slice a' 6 cap')
  rw[show(w.alloc (.cells #[.slice a 6 cap] 57)).heap.size=w.heap.size+1 by simp]at this
  exact this
 go_enter Tryz.func86,Tryz.ntmps86
 go_wp2_with fail
 generalize(w.alloc (.cells #[.slice a 6 cap] 57)).alloc (.cells #[.slice a' 6 cap'] 57)=W at*
 go_loopw [5](fun i wr=>∃k:Nat,k<=6∧i=.int .i64 k∧Hid (∀j,j<k->fU (r.getD j K.zero) (s.getD j K.zero)=true)∧wr.cell? ⟨w.heap.size,0,none⟩=some (.slice a 6 cap)∧wr.cell? ⟨w.heap.size+1,0,none⟩=some (.slice a' 6 cap')∧Below w.heap.size w wr)(fun i _=>6-(intOf i).toNat)
 case atStart=>exact⟨0,by omega,rfl,fun j hj=>by omega,x0,y0,B⟩
 case round=>
  clear B x0 y0
  obtain⟨k,hk,rfl,HJ,x0,y0,B⟩:=hrel
  rename World=>W0
  by_cases hk6:k<6
  ·obtain⟨b,o,rfl,hlt,c0,c1,c2⟩:=HP.out W0 B k hk6
   obtain⟨b',o',rfl,hlt',d0,d1,d2⟩:=HU.out W0 B k hk6
   have HC1:=HC.out k
   have HNk:Hid (fU (r.getD k K.zero) (s.getD k K.zero)=false->R=false):=HN.out k hk6
   have HJ1:Hid (fU (r.getD k K.zero) (s.getD k K.zero)=true->∀j,j<k+1->fU (r.getD j K.zero) (s.getD j K.zero)=true):=fun h j hj=>by
    by_cases hjk:j=k
    ·subst hjk;exact h
    ·exact HJ.out j (by omega)
   have hk6':(k:Int)<6:=by omega
   clear HC HP HU HJ HN HY
   generalize fU (r.getD k K.zero) (s.getD k K.zero)=Q at*
   generalize r.getD k K.zero=c at*
   generalize s.getD k K.zero=d at*
   obtain⟨ck,ca,cb⟩:=c
   obtain⟨dk,da,db⟩:=d
   simp only at c0 c1 c2 d0 d1 d2
   simp only[fC]at HC1
   have HC2:Hid (∀w,Calls Tryz.prog 120 #[.agg #[.int .i64 ck,.int .u64 (ca:Int),.int .u64 (cb:Int)],.agg #[.int .i64 dk,.int .u64 (da:Int),.int .u64 (db:Int)]] w fun e w'=>e=.returned (.bool Q)∧Below w.heap.size w w'):=HC1
   clear HC1
   have SK:Hid (∀wa wb,Below wa.heap.size wa wb->(Below w.heap.size w wa∧wa.cell? ⟨w.heap.size,0,none⟩=some (.slice (some ⟨b,o,none⟩) 6 cap)∧wa.cell? ⟨w.heap.size+1,0,none⟩=some (.slice (some ⟨b',o',none⟩) 6 cap')∧wa.cell? ⟨b,o+k*3,none⟩=some (.int .i64 ck)∧wa.cell? ⟨b,o+k*3+1,none⟩=some (.int .u64 (ca:Int))∧wa.cell? ⟨b,o+k*3+2,none⟩=some (.int .u64 (cb:Int))∧wa.cell? ⟨b',o'+k*3,none⟩=some (.int .i64 dk)∧wa.cell? ⟨b',o'+k*3+1,none⟩=some (.int .u64 (da:Int))∧wa.cell? ⟨b',o'+k*3+2,none⟩=some (.int .u64 (db:Int)))->(Below w.heap.size w wb∧wb.cell? ⟨w.heap.size,0,none⟩=some (.slice (some ⟨b,o,none⟩) 6 cap)∧wb.cell? ⟨w.heap.size+1,0,none⟩=some (.slice (some ⟨b',o',none⟩) 6 cap')∧wb.cell? ⟨b,o+k*3,none⟩=some (.int .i64 ck)∧wb.cell? ⟨b,o+k*3+1,none⟩=some (.int .u64 (ca:Int))∧wb.cell? ⟨b,o+k*3+2,none⟩=some (.int .u64 (cb:Int))∧wb.cell? ⟨b',o'+k*3,none⟩=some (.int .i64 dk)∧wb.cell? ⟨b',o'+k*3+1,none⟩=some (.int .u64 (da:Int))∧wb.cell? ⟨b',o'+k*3+2,none⟩=some (.int .u64 (db:Int)))):=fun wa wb hb⟨s,x,y,e1,e2,e3,e4,e5,e6⟩=>⟨eo hb s,eh hb x,eh hb y,eh hb e1,eh hb e2,eh hb e3,eh hb e4,eh hb e5,eh hb e6⟩
   have hS0:=SK.out W0 W0.drew ((af _ _).drew) ⟨B,x0,y0,c0,c1,c2,d0,d1,d2⟩
   clear x0 y0 c0 c1 c2 d0 d1 d2 B
   go_wp2_with fail
   go_region_held3(fun w'=>Below w.heap.size w w'∧w'.cell? ⟨w.heap.size,0,none⟩=some (.slice (some ⟨b,o,none⟩) 6 cap)∧w'.cell? ⟨w.heap.size+1,0,none⟩=some (.slice (some ⟨b',o',none⟩) 6 cap')∧w'.cell? ⟨b,o+k*3,none⟩=some (.int .i64 ck)∧w'.cell? ⟨b,o+k*3+1,none⟩=some (.int .u64 (ca:Int))∧w'.cell? ⟨b,o+k*3+2,none⟩=some (.int .u64 (cb:Int))∧w'.cell? ⟨b',o'+k*3,none⟩=some (.int .i64 dk)∧w'.cell? ⟨b',o'+k*3+1,none⟩=some (.int .u64 (da:Int))∧w'.cell? ⟨b',o'+k*3+2,none⟩=some (.int .u64 (db:Int)))
    (assumption)
    (first|(go_at_call 120;refine(HC2.out _).mono ?_;rintro _ w9⟨rfl,hb9⟩;have hS9:=SK.out _ _ hb9 (by assumption)))
   all_goals
    obtain⟨B1,x1,y1,_,_,_,_,_,_⟩:=hS9
    clear hb9 hS0 SK
    cases Q with
    |false=>
     have hR:R=false:=HNk.out rfl
     subst hR
     go_wp2
     go_ret
     exact⟨rfl,B1⟩
    |true=>
     have HJ2:Hid (∀j,j<k+1->fU (r.getD j K.zero) (s.getD j K.zero)=true):=HJ1.out rfl
     go_wp2
     go_roundw
     case rel=>exact⟨k+1,by omega,by go_num,HJ2,x1,y1,B1⟩
     case measure=>simp[intOf];omega
  ·have hk':k=6:=by omega
   subst hk'
   have hR:R=true:=HY.out HJ.out
   subst hR
   go_wp2
   go_ret
   exact⟨rfl,B⟩
variable{L:Nat}
def PRL(L:Nat)(w:World)(b o:Nat)(r:List K):Prop:=∃a cap,w.cell? ⟨b,o,none⟩=some (.slice a r.length cap)∧(r=[]∨∃b2 o2,a=some ⟨b2,o2,none⟩∧L<=b2∧b2<w.heap.size∧LAt 3 PK w b2 o2 r)
theorem PRL.stays(L:Nat):mK (PRL L):=fun w w' b o x hlt hb⟨a,cap,h0,h1⟩=>⟨a,cap,(hb.cell (p:=⟨b,_,none⟩) hlt).trans h0,by
 rcases h1 with h1|⟨b2,o2,e,h2,h3,h4⟩
 ·exact .inl h1
 exact .inr ⟨b2,o2,e,h2,an h3 hb.size,h4.below PK.stays h3 hb⟩⟩
theorem PR.toL{r:List K}(h:PR w b o r):PRL 0 w b o r:=by
 obtain⟨a,cap,h0,h1⟩:=h;refine⟨a,cap,h0,?_⟩;rcases h1 with h1|⟨b2,o2,e,h3,h4⟩
 ·exact .inl h1
 exact .inr ⟨b2,o2,e,Nat.zero_le _,h3,h4⟩
theorem FY{a:Option Addr}{l:List (List K)}{P Q:World->Nat->Nat->List K->Prop}(h:eS 1 P w a l)(hPQ:∀b o x,P w b o x->Q w b o x):eS 1 Q w a l:=by
 rcases h with h|⟨b,o,h1,h2,h3⟩
 ·exact .inl h
 exact .inr ⟨b,o,h1,h2,fun i hi=>hPQ _ _ _ (h3 i hi)⟩
def lA(L:Nat)(w:World)(v:Value)(p:Ru×Value):Prop:=∃b o cap,p.2=.slice (some ⟨b,o,none⟩) 6 cap∧p.1.length=6∧v.ownBlock≠some b∧b<w.heap.size∧LAt 3 PK w b o p.1∧L<=b
structure jg(L:Nat)(w:World)(B:Nat)(v:Value)(os:List (Ru×Value)):Prop where
 row:w.ownsRow B 57 1 v os.length (os.map Prod.snd)
 el:∀p∈os,lA L w v p
theorem th:(Tryz.prog.info? 57).map (fun i=>(i.zero,i.size,i.bytes))=some (some (.agg #[.slice none 0 0]),1,24):=by kernel_rfl
theorem jg.nil(w:World)(B:Nat):jg L w B (.slice none 0 0) []:=⟨aZ _ _ _ _,by simp⟩
theorem lA.below{w w1:World}{v:Value}{p:Ru×Value}(h:lA L w v p)(hb:Below w.heap.size w w1):lA L w1 v p:=by
 obtain⟨b,o,cap,h1,h2,h3,h4,h5⟩:=h;exact⟨b,o,cap,h1,h2,h3,an h4 hb.size,h5.1.below PK.stays h4 hb,h5.2⟩
theorem jg.below{w w1:World}{B:Nat}{v:Value}{os:List (Ru×Value)}(h:jg L w B v os)(hb:Below w.heap.size w w1):jg L w1 B v os:=
 ⟨aA (row:=none) h.row ⟨hb.os,hb.tape,hb.output,hb.size,fun k hk _=>hb.block k hk⟩ (by cases v.ownBlock<;>simp),fun p hp=>(h.el p hp).below hb⟩
theorem PK.blk{w1:World}(h:PK w b o c)(e:w1.heap[b]? =w.heap[b]?):PK w1 b o c:=by
 have key:∀i,w1.cell? ⟨b,i,none⟩=w.cell? ⟨b,i,none⟩:=fun i=>by simp only[World.cell?,e]
 exact⟨(key _).trans h.1,(key _).trans h.2.1,(key _).trans h.2.2⟩
theorem LAt.blk{w w1:World}{b o:Nat}{l:List K}(h:LAt 3 PK w b o l)(e:w1.heap[b]? =w.heap[b]?):LAt 3 PK w1 b o l:=fun i hi=>(h i hi).blk e
theorem jg.next{w1:World}{p:Ru×Value}{gg cap n:Nat}{o:Obj}(h:jg L w B v os)(hp:lA L w v p)(hn:n=os.length+1)
 (hown:w1.ownsRow B 57 1 (.slice (some ⟨gg,0,none⟩) n cap) n (os.map Prod.snd++[p.2]))(hg:(w.alloc o).grownBy w1 v.ownBlock)(hat:v.ownBlock=some gg∨gg=w.heap.size+1):
 jg L w1 B (.slice (some ⟨gg,0,none⟩) n cap) (os++[p]):=by
 subst hn
 have hsz:(w.alloc o).heap.size=w.heap.size+1:=by simp
 have key:∀q,lA L w v q->lA L w1 (.slice (some ⟨gg,0,none⟩) (os.length+1) cap) q:=by
  rintro q⟨b,o2,cap2,h1,h2,h3,h4,h5⟩
  have hb2:Below w.heap.size w (w.alloc o):=(af _ _).alloc (ae _) o
  have hlt:b<(w.alloc o).heap.size:=by omega
  refine⟨b,o2,cap2,h1,h2,?_,an hlt hg.size,(h5.1.below PK.stays h4 hb2).blk (hg.block b hlt (fun e=>h3 e.symm)),h5.2⟩
  intro e
  have e':gg=b:=by simpa[Value.ownBlock]using e
  rcases hat with q|q
  ·rw[e']at q;exact h3 q
  ·omega
 refine⟨by simpa using hown,fun q hq=> ?_⟩
 rw[bj,aV]at hq
 rcases hq with hq|rfl
 ·exact key q (h.el q hq)
 ·exact key _ hp
theorem jg.src(h:jg L w B v os):∃a cap,v=.slice a os.length cap∧os.length<=cap∧eS 1 (PRL L) w a (os.map Prod.fst):=by
 obtain⟨hr,hg⟩:=h;have hr0:=hr;obtain⟨h0,h|⟨g,cap,cur,rfl,hb,hgc,hn,hm,hs,hx⟩⟩:=hr
 ·obtain⟨rfl,hl⟩:=h;have:os=[]:=aM hl;subst this;exact⟨none,0,rfl,ae _,.inl rfl⟩
 refine⟨_,_,rfl,hn,.inr ⟨g,0,rfl,(bf.1 hgc).1,fun i hi=> ?_⟩⟩;have hi':i<os.length:=by simpa using hi
 have c0:=bE hr0 i (by omega);rw[cJ,ag hi']at c0;obtain⟨b,o,cap2,h1,h2,h3,h4,h5⟩:=hg _ (aI hi');have e:(os.map Prod.fst)[i]=os[i].1:=by simp
 rw[e];refine⟨some ⟨b,o,none⟩,cap2,?_,.inr ⟨b,o,rfl,h5.2,h4,h5.1⟩⟩;rw[bR,aC,c0,h2];exact congrArg some h1
theorem PR.good{r:Ru}(h:PRL L w b o r)(h6:r.length=6)(hv:∀q,v.ownBlock=some q->w.heap.size<=q):∃x,w.cell? ⟨b,o,none⟩=some x∧lA L w v (r,x):=by
 obtain⟨a,cap,h1,h2⟩:=h;rcases h2 with e|⟨b2,o2,rfl,hL,h3,h4⟩
 ·rw[e]at h6;simp at h6
 rw[h6]at h1;exact⟨_,h1,b2,o2,cap,rfl,h6,fun e=>by have:=hv b2 e;omega,h3,h4,hL⟩
theorem jg.put{g n cap i:Nat}{p:Ru×Value}(h:jg L w B (.slice (some ⟨g,0,none⟩) n cap) os)(hn:n=os.length)(hp:lA L w (.slice (some ⟨g,0,none⟩) n cap) p):jg L (w.setCell ⟨g,i,none⟩ p.2) B (.slice (some ⟨g,0,none⟩) n cap) (os.set i p):=by
 subst hn;have h1:=(World.ownsRow.stored h.row i p.2).1;have key:∀q,lA L w (.slice (some ⟨g,0,none⟩) os.length cap) q->lA L (w.setCell ⟨g,i,none⟩ p.2) (.slice (some ⟨g,0,none⟩) os.length cap) q:=by
  rintro q⟨b,o2,cap2,h1,h2,h3,h4,h5⟩;refine⟨b,o2,cap2,h1,h2,h3,by simpa using h4,h5.1.blk ?_,h5.2⟩;have hne:g≠b:=fun e=>h3 (by rw[e];rfl)
  simp only[World.setCell,aH];rw[if_neg hne]
 refine⟨by rw[List.map_set,aK];exact h1,fun q hq=> ?_⟩;rcases cQ hq with hq|rfl
 ·exact key q (h.el q hq)
 exact key _ hp
end Go.Proofs.YtdihdapmphkhpaaGreat
namespace Go.Proofs.YtdihdapmphkhpaaGreat
variable{b k p:Nat}{l out:List Ru}{r s:Ru}
def jm(r s:Ru)(k:Nat)(at0:Int):Prop:=
 (at0= -1∧∀j,j<k->r.getD j K.zero=s.getD j K.zero)∨∃p:Nat,p<k∧at0=p∧r.getD p K.zero≠s.getD p K.zero∧∀j,j<k->j≠p->r.getD j K.zero=s.getD j K.zero
theorem jm.zero(r s:Ru):jm r s 0 (-1):=.inl ⟨rfl,fun j hj=>by omega⟩
theorem jm.cases{a:Int}(h:jm r s k a):a= -1∨∃p:Nat,a=p∧p<k:=by
 rcases h with⟨h,_⟩|⟨p,h1,h2,_⟩
 ·exact .inl h
 exact .inr ⟨p,h2,h1⟩
theorem jm.same{a:Int}(h:jm r s k a)(e:r.getD k K.zero=s.getD k K.zero):jm r s (k+1) a:=by
 rcases h with⟨h1,h2⟩|⟨p,h1,h2,h3,h4⟩
 ·refine .inl ⟨h1,fun j hj=> ?_⟩;by_cases g:j=k
  ·rw[g];exact e
  exact h2 j (by omega)
 refine .inr ⟨p,by omega,h2,h3,fun j hj hne=> ?_⟩;by_cases g:j=k
 ·rw[g];exact e
 exact h4 j (by omega) hne
theorem jm.here(h:jm r s k (-1))(e:r.getD k K.zero≠s.getD k K.zero):jm r s (k+1) k:=by
 rcases h with⟨h1,h2⟩|⟨p,h1,h2,h3,h4⟩
 ·exact .inr ⟨k,by omega,rfl,e,fun j hj hne=>h2 j (by omega)⟩
 omega
theorem jm.twice(h:jm r s k p)(hk:k<6)(e:r.getD k K.zero≠s.getD k K.zero):gj r s:=by
 rcases h with⟨h1,h2⟩|⟨p',h1,h2,h3,h4⟩
 ·omega
 rintro x⟨i,c,⟨g1,g2,g3,g4⟩,rfl⟩;by_cases q:k=i
 ·subst q;exact h3 (g3 p' (by omega) (by omega))
 exact e (g3 k hk q)
theorem jm.never(h:jm r s 6 (-1)):gj r s:=by
 rcases h with⟨h1,h2⟩|⟨p',h1,h2,h3,h4⟩
 ·rintro x⟨i,c,⟨g1,g2,g3,g4⟩,rfl⟩;exact g2 (h2 i g1)
 omega
theorem jm.no(h:jm r s 6 p)(e:gl (r.getD p K.zero) (s.getD p K.zero)=none):gj r s:=by
 rcases h with⟨h1,h2⟩|⟨p',h1,h2,h3,h4⟩
 ·omega
 have:p=p':=by omega
 subst this;rintro x⟨i,c,⟨g1,g2,g3,g4⟩,rfl⟩;by_cases q:i=p
 ·subst q;rw[e]at g4;cases g4
 exact g2 (h4 i g1 q)
theorem jm.yes{c:K}(h:jm r s 6 p)(e:gl (r.getD p K.zero) (s.getD p K.zero)=some c):jD r s (r.set p c):=by
 rcases h with⟨h1,h2⟩|⟨p',h1,h2,h3,h4⟩
 ·omega
 have:p=p':=by omega
 subst this;exact⟨p,c,⟨h1,h3,h4,e⟩,rfl⟩
theorem Gj{i:Nat}{c:K}(hi:i<r.length):(r.set p c).take (i+1)=(r.set p c).take i++[if i=p then c else r.getD i K.zero]:=by
 rw[cK,dL];congr 1;by_cases e:p=i
 ·subst e;simp[hi]
 rw[if_neg e,if_neg (fun q=>e q.symm),ag hi,aa,ag hi];rfl
def vW(out:List Ru)(c:Ru):Prop:=∀o∈out,ie o c<0
def gE(l out:List Ru)(k:Nat)(best:Int):Prop:=
 (best= -1∧∀i,i<k->¬vW out (at' l i))∨∃b:Nat,b<k∧best=b∧vW out (at' l b)∧∀i,i<k->vW out (at' l i)->ie (at' l b) (at' l i)<=0
theorem gE.zero(l out:List Ru):gE l out 0 (-1):=.inl ⟨rfl,fun i hi=>by omega⟩
theorem gE.skip{best:Int}(h:gE l out k best)(hc:¬vW out (at' l k)):gE l out (k+1) best:=by
 rcases h with⟨h1,h2⟩|⟨b,h1,h2,h3,h4⟩
 ·refine .inl ⟨h1,fun i hi=> ?_⟩;by_cases e:i=k
  ·rw[e];exact hc
  exact h2 i (by omega)
 refine .inr ⟨b,by omega,h2,h3,fun i hi hi2=> ?_⟩;by_cases e:i=k
 ·rw[e]at hi2;exact absurd hi2 hc
 exact h4 i (by omega) hi2
theorem gE.first(h:gE l out k (-1))(hc:vW out (at' l k)):gE l out (k+1) k:=by
 rcases h with⟨h1,h2⟩|⟨b,h1,h2,h3,h4⟩
 ·refine .inr ⟨k,by omega,rfl,hc,fun i hi hi2=> ?_⟩;by_cases e:i=k
  ·rw[e,ou.self];exact ba 0
  exact absurd hi2 (h2 i (by omega))
 omega
theorem gE.less(h:gE l out k b)(hc:vW out (at' l k))(ho:ie (at' l k) (at' l b)<0):gE l out (k+1) k:=by
 rcases h with⟨h1,h2⟩|⟨b',h1,h2,h3,h4⟩
 ·omega
 have:b=b':=by omega
 subst this;refine .inr ⟨k,by omega,rfl,hc,fun i hi hi2=> ?_⟩;by_cases e:i=k
 ·rw[e,ou.self];exact ba 0
 have:=ou.lt_le ho (h4 i (by omega) hi2);omega
theorem gE.same(h:gE l out k b)(ho:¬ie (at' l k) (at' l b)<0):gE l out (k+1) b:=by
 rcases h with⟨h1,h2⟩|⟨b',h1,h2,h3,h4⟩
 ·omega
 have:b=b':=by omega
 subst this;refine .inr ⟨b,by omega,rfl,h3,fun i hi hi2=> ?_⟩;by_cases e:i=k
 ·rw[e];have:=ou.tE (at' l b) (at' l k);omega
 exact h4 i (by omega) hi2
theorem gE.lt(h:gE l out k b):b<k:=by
 rcases h with⟨h1,h2⟩|⟨b',h1,h2,h3,h4⟩<;>omega
theorem gE.cases{best:Int}(h:gE l out k best):best= -1∨∃b:Nat,best=b∧b<k:=by
 rcases h with⟨h1,h2⟩|⟨b',h1,h2,h3,h4⟩
 ·exact .inl h1
 exact .inr ⟨b',h2,h1⟩
theorem gE.done{l out:List Ru}(h:gE l out l.length (-1))(hs:mP ie l out):jh ie l out:=by
 rcases h with⟨h1,h2⟩|⟨b',h1,h2,h3,h4⟩
 ·refine hs.done fun c hc=> ?_
  obtain⟨i,hi,rfl⟩:=pH hc;exact h2 i hi
 omega
theorem gE.next{l out:List Ru}{b:Nat}(h:gE l out l.length b)(hs:mP ie l out):mP ie l (out++[at' l b]):=by
 rcases h with⟨h1,h2⟩|⟨b',h1,h2,h3,h4⟩
 ·omega
 have:b=b':=by omega
 subst this;refine hs.next ou (at_mem h1) h3 fun c hc hc2=> ?_
 obtain⟨i,hi,rfl⟩:=pH hc;exact h4 i hi hc2
theorem EY(c:Ru):vW [] c:=by intro o ho;simp at ho
theorem EP{t:List Ru}{z c:Ru}(h:rW ie (t++[z])):vW (t++[z]) c↔ie z c<0:=GV ou h (by simp)
theorem BB{α:Type}{l:List α}{i:Nat}(h:i<l.length)(d:α)(hne:i≠k):(l.take (i+1)).eraseIdx k=(l.take i).eraseIdx k++[l.getD i d]:=by
 have e:l.take (i+1)=l.take i++[l.getD i d]:=by
  rw[cK,aa,ag h];rfl
 rw[e];have hl:(l.take i).length=i:=by rw[bN];omega
 by_cases hk:k<i
 ·rw[List.eraseIdx_append_of_lt_length (by omega)]
 rw[List.eraseIdx_append_of_length_le (by omega),hl];rw[List.eraseIdx_of_length_le (by omega:(l.take i).length<=k)];congr 1;rw[List.eraseIdx_of_length_le];simp;omega
theorem CE{α:Type}{l:List α}:(l.take (k+1)).eraseIdx k=(l.take k).eraseIdx k:=by
 rw[List.eraseIdx_of_length_le (by rw[bN];omega:(l.take k).length<=k)];apply List.ext_getElem?;intro j;rw[List.getElem?_eraseIdx];by_cases h:j<k
 ·rw[if_pos h,bP,bP,if_pos (by omega),if_pos h]
 rw[if_neg h,bP,bP,if_neg (by omega),if_neg h]
end Go.Proofs.YtdihdapmphkhpaaGreat
namespace Go.Proofs.YtdihdapmphkhpaaGreat
open Go.RowKit
variable{L:Nat}
def uX(L:Nat)(l:List Ru)(k:Nat)(w:World)(e:Ending)(w':World):Prop:=∃v os,e=.returned v∧jg L w' w.heap.size v os∧os.map Prod.fst=l.eraseIdx k∧Below w.heap.size w w'
theorem nT{w:World}{a:Option Addr}{l:List Ru}(hs:eS 1 (PRL L) w a l)(h6:∀r∈l,r.length=6){wr:World}(hB:Below w.heap.size w wr){i:Nat}(hi:i<l.length){v:Value}(hv:∀q,v.ownBlock=some q->w.heap.size<=q):
 ∃b o a' cap',a=some ⟨b,o,none⟩∧wr.cell? ⟨b,o+i,none⟩=some (.slice a' 6 cap')∧eS 3 PK wr a' (at' l i)∧lA L wr v (at' l i,.slice a' 6 cap'):=by
 obtain⟨b,o,rfl,hl,hp⟩:=hs.at hi [];have hm:at' l i∈l:=at_mem hi;obtain⟨x,hx,hg⟩:=PR.good (v:=v) hp (h6 _ hm) hv;have hx':=(hB.cell (p:=⟨b,o+i*1,none⟩) hl).trans hx;have hg':lA L wr v (at' l i,x):=by
  obtain⟨b2,o2,cap,e,h2,h3,h4,h5⟩:=hg;exact⟨b2,o2,cap,e,h2,h3,an h4 hB.size,h5.1.below PK.stays h4 hB,h5.2⟩
 rw[bR]at hx';have hg2:=hg';obtain⟨b2,o2,cap,e,h2,h3,h4,h5⟩:=hg';simp only at e;subst e;exact⟨b,o,_,_,rfl,hx',.inr ⟨b2,o2,rfl,h4,h5.1⟩,hg2⟩
theorem wc(L:Nat)(l:List Ru)(k:Nat)(a:Option Addr)(cap:Nat)(w:World)(hs:eS 1 (PRL L) w a l)(h6:∀r∈l,r.length=6)(hn:l.length<=1000)(hk:k<=1000):
 Calls Tryz.prog 87 #[.slice a l.length cap,.int .i64 (k:Int)] w fun e w'=>uX L l k w e w':=by
 obtain⟨i0,hi,hz0,hz1,hz2⟩:=info_parts th;have HR:Hid (∀wr v,Below w.heap.size w wr->(∀q,v.ownBlock=some q->w.heap.size<=q)->∀i,i<l.length->∃b o a' cap',a=some ⟨b,o,none⟩∧wr.cell? ⟨b,o+i,none⟩=some (.slice a' 6 cap')∧eS 3 PK wr a' (at' l i)∧lA L wr v (at' l i,.slice a' 6 cap')):=fun wr v hB hv i hi=>nT hs h6 hB hi hv
 have HE1:Hid (∀i,i<l.length->i≠k->(l.take (i+1)).eraseIdx k=(l.take i).eraseIdx k++[at' l i]):=fun i hi hne=>BB hi [] hne
 have HE2:Hid ((l.take (k+1)).eraseIdx k=(l.take k).eraseIdx k):=CE;have HEnd:Hid ((l.take l.length).eraseIdx k=l.eraseIdx k):=by show _=_;rw[ct]
 have HLen:Hid (∀i,((l.take i).eraseIdx k).length<=l.length):=fun i=>aW (List.length_eraseIdx_le _ _) (by rw[bN];omega)
 clear hs h6;generalize l.length=n at*;go_enter Tryz.func87,Tryz.ntmps87;go_wp2_with fail;go_loopw [5,6](fun s' i wr=>∃(j:Nat)(s:Value)(os:List (Ru×Value)),j<=n∧i=.int .i64 j∧s=s'∧jg L wr w.heap.size s os∧Hid (os.map Prod.fst=(l.take j).eraseIdx k)∧Below w.heap.size w wr)(fun _ i _=>n-(intOf i).toNat)
 case atStart=>exact⟨0,_,[],by omega,rfl,rfl,jg.nil _ _,by show _=_;simp,af _ _⟩
 case round=>
  obtain⟨j,s,os,hj,rfl,hss,hO,HM,B⟩:=hrel;subst hss;rename World=>W0
  by_cases hjn:j<n
  ·have hjn':(j:Int)<(n:Int):=by omega
   by_cases hjk:j=k
   ·subst hjk;have HM2:Hid (os.map Prod.fst=(l.take (j+1)).eraseIdx j):=HM.out.trans HE2.out.symm;have hb:((j:Int)!=(j:Int))=false:=by simp
    clear HR HE1 HE2 HEnd HLen HM;go_wp2;go_roundw
    case rel=>exact⟨j+1,_,os,by omega,by go_num,rfl,hO,HM2,B⟩
    case measure=>simp[intOf];omega
   obtain⟨b,o,a',cap',rfl,c0,hs',hg⟩:=HR.out W0 s B (fun q hq=>(hO.row.lt q hq).1) j hjn;have HM2:Hid ((os++[(at' l j,Value.slice a' 6 cap')]).map Prod.fst=(l.take (j+1)).eraseIdx k):=by
    show _=_;rw[bL,HM.out,HE1.out j hjn hjk];rfl
   have hol:os.length<=1000:=by
    have:=HLen.out j;rw[<-HM.out,aX]at this;omega
   have hb:((j:Int)!=(k:Int))=true:=by rw[bne_iff_ne];omega
   have hsz:=B.size;clear HR HE1 HE2 HEnd HLen HM hs' hjk;have hbm:os.length+1<=maxLen:=by unfold maxLen;omega
   have hbd:(os.length+1)*24<=140737488355328:=by omega
   have hbs:w.heap.size<=(W0.alloc (.cells #[.slice a' 6 cap'] 57)).heap.size:=by simp;omega
   go_wp2_with(at_builtin;refine wpList_append_lies _ rfl (.tmp 16) (.tmp 21) 51 rfl (w.heap.size) 57 i0 _ 1 24 Tryz.underlying51 hi hz0 hz1 hz2 rfl (by decide) s os.length (os.map Prod.snd) rfl (hO.row.alloc _) ⟨W0.heap.size,0,none⟩ 1 1 [.slice a' 6 cap'] rfl rfl (cell_one_new _ _ _) (by intro u hu;simp at hu;subst hu;rfl) (by omega) hbm hbd hbs _ rfl ?_);intro g cp w9 ow gr hat _;have O9:=hO.next hg rfl ow gr hat;have B9:Below w.heap.size w w9:=(B.alloc hsz _).grown gr hbs (fun t ht=>(hO.row.lt t ht).1);clear ow gr hat hO hg B c0 hbm hbd hbs;go_wp2;go_roundw
   case rel=>exact⟨j+1,_,_,by omega,by go_num,rfl,O9,HM2,B9⟩
   case measure=>simp[intOf];omega
  have hjn':j=n:=by omega
  subst hjn';have HP:Hid (uX L l k w (.returned s) W0):=⟨s,os,rfl,hO,HM.out.trans HEnd.out,B⟩;clear HR HE1 HE2 HEnd HLen HM hO;go_wp2;go_ret;exact HP.out
end Go.Proofs.YtdihdapmphkhpaaGreat
