import Derived.Test.YtdihdapmphkhpaaGreatQ39
set_option linter.all false
set_option maxRecDepth 200000
set_option maxHeartbeats 16000000
namespace Go.Proofs.YtdihdapmphkhpaaGreat
open Go.RowKit
variable{k:Nat}{l:List It}{ms:List Ma}{st:List I×Mk}
abbrev I6(c a b k:Int):Obj:=.cells #[.int .u16 c,.int .u8 a,.int .u8 b,.int .u32 k] 68
structure LdJ(l:List It)(k:Nat)(ms:List Ma)(st:List I×Mk):Prop where
 lay:lC (l.drop k)=some st
 fm:∀t,jF ms t=st.2 t
theorem LdJ.start(l:List It):LdJ l l.length [] ([],fun _=>none):=⟨by rw[dC];rfl,fun t=>rfl⟩
theorem LdJ.some{l:List It}{k:Nat}{ms:List Ma}{st s0:List I×Mk}(h:LdJ l (k+1) ms st)(h0:lC l=Option.some s0)(hk:k<l.length):∃t,stJ (l.getD k It.zero) st=Option.some t:=by
 obtain⟨t,h1,_⟩:=wU h0 k;rw[qd hk,h.lay]at h1;exact⟨t,h1⟩
theorem LdJ.label{s0:List I×Mk}(h:LdJ l (k+1) ms st)(h0:lC l=Option.some s0)(hk:k<l.length)(h4:(l.getD k It.zero).kind=4):∃m,LdJ l k (ms++[((l.getD k It.zero).target,st.1.length)]) (st.1,m):=by
 obtain⟨t,ht⟩:=h.some h0 hk;have h1:lC (l.drop k)=Option.some t:=by rw[qd hk,h.lay];exact ht
 unfold stJ at ht;rw[if_neg (by omega),if_pos h4]at ht
 cases ht;exact⟨_,h1,fun t=>by rw[nR];simp only;rw[h.fm]⟩
theorem LdJ.plain(h:LdJ l (k+1) ms st)(hk:k<l.length)(h4:(l.getD k It.zero).kind=0):LdJ l k ms (st.1++[(l.getD k It.zero).ins],st.2):=by
 refine⟨?_,h.fm⟩;rw[qd hk,h.lay];simp only[stJ];rw[if_pos h4]
theorem LdJ.br{s0:List I×Mk}(h:LdJ l (k+1) ms st)(h0:lC l=Option.some s0)(hk:k<l.length)(g0:(l.getD k It.zero).kind≠0)(h4:(l.getD k It.zero).kind≠4):∃a,jF ms (l.getD k It.zero).target=Option.some a∧a<=st.1.length∧LdJ l k ms (st.1++brI (l.getD k It.zero) ((st.1.length:Int)-a),st.2):=by
 obtain⟨t,ht⟩:=h.some h0 hk;have h1:lC (l.drop k)=Option.some t:=by rw[qd hk,h.lay];exact ht
 unfold stJ at ht;rw[if_neg g0,if_neg h4]at ht
 cases e:st.2 (l.getD k It.zero).target with
 |none=>
  rw[e]at ht;simp only at ht
  cases ht
 |some a=>
  rw[e]at ht;simp only at ht
  cases ht;exact⟨a,by rw[h.fm,e],(qL h.lay).1 _ _ e,h1,h.fm⟩
theorem LdJ.len(h:LdJ l k ms st):st.1.length<=l.length*2:=by
 have:=(qL h.lay).2;rw[bK]at this;omega
def sP(l:List It)(w:World)(e:Ending)(w':World):Prop:=∃v k ms st,e=.returned v∧gS w' w.heap.size v st.1∧LdJ l k ms st∧(k=0∨4096<st.1.length)∧Below w.heap.size w w'
theorem Fv(l:List It)(a:Option Addr)(cap:Nat)(w:World)(s0:List I×Mk)(hs:TSrc w a l)(ho:∀x∈l,x.ok)(hl:lC l=some s0)(hn:l.length<=1000000):
 Calls Tryz.prog 43 #[.slice a l.length cap] w fun e w'=>sP l w e w':=by
 obtain⟨i0,hi,hz0,hz1,hz2⟩:=info_parts Fe;obtain⟨i1,hi1,hy0,hy1,hy2⟩:=info_parts AX;have HP:Hid (∀wr,Below w.heap.size w wr->∀i,i<l.length->∃b o,a=some ⟨b,o,none⟩∧b<wr.heap.size∧PI wr b (o+i*6) (l.getD i It.zero)):=fun wr hB i hi=>(hs.below PI.stays hB).at hi It.zero
 have HF:Hid (∀(ms:List Ma)t a cap w1,eS 2 PM w1 a ms->ms.length<=1048576->Calls Tryz.prog 81 #[.slice a ms.length cap,.int .i64 t] w1 fun e w'=>e=.returned (.int .i64 (fdV (jF ms t)))∧w'=w1):=fun ms t a cap w1 h1 h2=>CF ms t a cap w1 h1 h2
 have H0:Hid (LdJ l l.length [] ([],fun _=>none)):=LdJ.start l;have HLab:Hid (∀k ms st,LdJ l (k+1) ms st->k<l.length->(l.getD k It.zero).kind=4->∃m,LdJ l k (ms++[((l.getD k It.zero).target,st.1.length)]) (st.1,m)):=fun k ms st h h1 h2=>h.label hl h1 h2
 have HPl:Hid (∀k ms st,LdJ l (k+1) ms st->k<l.length->(l.getD k It.zero).kind=0->LdJ l k ms (st.1++[(l.getD k It.zero).ins],st.2)):=fun k ms st h h1 h2=>h.plain h1 h2
 have HBr:Hid (∀k ms st,LdJ l (k+1) ms st->k<l.length->(l.getD k It.zero).kind≠0->(l.getD k It.zero).kind≠4->∃a,jF ms (l.getD k It.zero).target=some a∧a<=st.1.length∧LdJ l k ms (st.1++brI (l.getD k It.zero) ((st.1.length:Int)-a),st.2)):=fun k ms st h h1 h2 h3=>h.br hl h1 h2 h3
 have HLen:Hid (∀k ms st,LdJ l k ms st->st.1.length<=l.length*2):=fun k ms st h=>h.len
 clear hs ho hl s0;generalize l.length=n at*;have hwn:IntKind.i64.wrap ((n:Int)-1)=(n:Int)-1:=by rw[aT];omega
 go_enter Tryz.func43,Tryz.ntmps43;go_wp2_with fail;go_loopw [3,4,5](fun so' s' i wr=>∃(k:Nat)(so s:Value)(ms:List Ma)(st:List I×Mk),k<=n∧i=.int .i64 ((k:Int)-1)∧so=so'∧s=s'∧gS wr w.heap.size so st.1∧mE wr w.heap.size s ms∧ms.length<=n-k∧Hid (LdJ l k ms st)∧Below w.heap.size w wr)(fun _ _ i _=>(intOf i+1).toNat)
 case atStart=>exact⟨n,_,_,[],_,by omega,by first|rfl|go_num,rfl,rfl,aZ _ _ _ _,aZ _ _ _ _,by simp,H0,af _ _⟩
 case round=>
  obtain⟨k,so,s,ms,st,hk,rfl,hsso,hss,hOI,hO,hml,HOk,B⟩:=hrel;subst hsso;subst hss;rename World=>W0
  have hol:=HLen.out k ms st HOk.out;obtain⟨ai,ci,rfl,_⟩:=j4 hOI;by_cases hk0:0<k∧st.1.length<=4096
  ·obtain⟨hk0,hl4⟩:=hk0;obtain⟨k',rfl⟩:∃k',k=k'+1:=⟨k-1,by omega⟩;have hk':((k'+1:Nat):Int)-1=(k':Int):=by omega
   rw[hk'];have hkn:(k':Int)<(n:Int):=by omega
   have hkN:k'<n:=by omega
   have hw2:IntKind.i64.wrap ((k':Int)-1)=(k':Int)-1:=by rw[aT];omega
   obtain⟨b,o,rfl,hlt,c0,c1,c2,c3,c4,c5⟩:=HP.out W0 B k' hkN;have HLabk:Hid _:=HLab.out k' ms st HOk.out hkN;have HPlk:Hid _:=HPl.out k' ms st HOk.out hkN;have HBrk:Hid _:=HBr.out k' ms st HOk.out hkN;generalize l.getD k' It.zero=x at*;obtain⟨kd,⟨c,jt,jf,ik⟩,tg⟩:=x;obtain⟨ol,mk⟩:=st;simp only at c0 c1 c2 c3 c4 c5 HLabk HPlk HBrk hOI hol hl4;obtain⟨am,cm,rfl,_,hsm⟩:=DG hO;have hbx:Below W0.heap.size W0 (W0.alloc (.cells #[.int .i64 kd,.int .u16 c,.int .u8 jt,.int .u8 jf,.int .u32 ik,.int .i64 tg] 91)):=(af _ _).alloc (ae _) _;have X:=wB.new W0 91 (.int .i64 kd) (.int .u16 c) (.int .u8 jt) (.int .u8 jf) (.int .u32 ik) (.int .i64 tg);have B2:=eo hbx B;have O2:=nA hO hbx;have I2:=jE hOI hbx;have hs2:=hsm.below PM.stays hbx;have hb4:(ol.length:Int)<=4096:=by omega
   have hWs:=B.size;have hqi:∀q,(Value.slice ai ol.length ci).ownBlock=some q->q<W0.heap.size:=fun q hq=>(hOI.lt q hq).2
   obtain⟨hxl,x0,x1,x2,x3,x4,x5,_⟩:=X;clear HP HLab HPl HBr HOk H0 HLen hO hOI hsm B hbx;by_cases h4:kd=4
   ·subst h4;obtain⟨m2,hL3⟩:=HLabk.out rfl;have HL3:Hid (LdJ l k' (ms++[(tg,ol.length)]) (ol,m2)):=hL3;clear HLabk HPlk HBrk hL3 HF hs2;have hsz:=B2.size;have hbs:w.heap.size<=((W0.alloc (.cells #[.int .i64 4,.int .u16 c,.int .u8 jt,.int .u8 jf,.int .u32 ik,.int .i64 tg] 91)).alloc (.cells #[.int .i64 tg,.int .i64 (ol.length:Int)] 137)).heap.size:=by simp;omega
    have hbm:ms.length+1<=maxLen:=by unfold maxLen;omega
    have hbd:(ms.length+1)*16<=140737488355328:=by omega
    go_wp2_with(at_builtin;refine wpList_append_own _ rfl (.tmp 29) (.tmp 35) 135 rfl (w.heap.size) 137 i0 _ 2 16 Tryz.underlying135 hi hz0 hz1 hz2 rfl (by decide) (.slice am ms.length cm) ms.length (ms.flatMap maC) rfl (bh O2 _) ⟨W0.heap.size+1,0,none⟩ 1 1 [.int .i64 tg,.int .i64 (ol.length:Int)] rfl rfl (iZ (by simp)) (by simp[Value.oneCell']) hbm hbd hbs ?_);intro v9 w9 ow gr _;have o9:mE w9 w.heap.size v9 (ms++[(tg,ol.length)]):=by simpa[mE,maC]using ow
    have p9:gS w9 w.heap.size (.slice ai ol.length ci) ol:=aA (bh I2 _) gr (oh O2 I2 (by decide));have B9:Below w.heap.size w w9:=(B2.alloc hsz _).grown gr hbs (fun t ht=>(O2.lt t ht).1);clear ow gr O2 B2 I2 x0 x1 x2 x3 x4 x5 hbm hbd hbs;go_wp2;go_roundw
    case rel=>exact⟨k',_,_,_,(ol,m2),by omega,by first|rfl|go_num,rfl,rfl,p9,o9,by simp;omega,HL3,B9⟩
    case measure=>simp[intOf]
   have g4:(kd==4)=false:=by simpa using h4
   by_cases h0:kd=0
   ·subst h0;have HL3:Hid (LdJ l k' ms (ol++[⟨c,jt,jf,ik⟩],mk)):=HPlk.out rfl;clear HLabk HPlk HBrk HF hs2;have hsz:=B2.size;have hbs9:w.heap.size<=((W0.alloc (.cells #[.int .i64 0,.int .u16 c,.int .u8 jt,.int .u8 jf,.int .u32 ik,.int .i64 tg] 91)).alloc (I6 c jt jf ik)).heap.size:=by simp;omega
    have hbm9:ol.length+1<=maxLen:=by unfold maxLen;omega
    have hbd9:(ol.length+1)*8<=140737488355328:=by omega
    go_wp2_with(at_builtin;refine wpList_append_own _ rfl (.tmp 40) (.tmp 43) 34 rfl (w.heap.size) 68 i1 _ 4 8 Tryz.underlying34 hi1 hy0 hy1 hy2 rfl (by decide) (.slice ai ol.length ci) ol.length (ff ol) rfl (bh I2 _) ⟨W0.heap.size+1,0,none⟩ 1 1 [.int .u16 c,.int .u8 jt,.int .u8 jf,.int .u32 ik] rfl rfl (iZ (by simp)) (by simp[Value.oneCell']) hbm9 hbd9 hbs9 ?_);intro v9 w9 ow gr _;have p9:gS w9 w.heap.size v9 (ol++[⟨c,jt,jf,ik⟩]):=iG rfl ow;have o9:mE w9 w.heap.size (.slice am ms.length cm) ms:=aA (bh O2 _) gr (oh I2 O2 (by decide));have B9:Below w.heap.size w w9:=(B2.alloc hsz _).grown gr hbs9 (fun t ht=>(bO I2 t ht).1);clear ow gr hbm9 hbd9 hbs9;clear O2 B2 I2 x0 x1 x2 x3 x4 x5;go_wp2;go_roundw
    case rel=>exact⟨k',_,_,ms,(ol++[⟨c,jt,jf,ik⟩],mk),by omega,by first|rfl|go_num,rfl,rfl,p9,o9,by omega,HL3,B9⟩
    case measure=>simp[intOf]
   have g0:(kd==0)=false:=by simpa using h0
   obtain⟨fa,hfa,hfl,hL3⟩:=HBrk.out h0 h4;have HL3:Hid (LdJ l k' ms (ol++brI ⟨kd,⟨c,jt,jf,ik⟩,tg⟩ ((ol.length:Int)-fa),mk)):=hL3;have HFk:Hid (∀w1,eS 2 PM w1 am ms->Calls Tryz.prog 81 #[.slice am ms.length cm,.int .i64 tg] w1 fun e w'=>e=.returned (.int .i64 (fa:Int))∧w'=w1):=fun w1 h=>by
    have:=HF.out ms tg am cm w1 h (by omega);rw[hfa]at this;exact this
   obtain⟨d,hd⟩:∃d:Nat,(ol.length:Int)-fa=d:=⟨ol.length-fa,by omega⟩;have hd4:d<=4096:=by omega
   have hwd:wrap64 ((ol.length:Int)-fa)=(d:Int):=by rw[hd];unfold wrap64;omega
   have hwm:(d:Int)%4294967296=(d:Int):=by omega
   rw[hd]at HL3;clear HLabk HPlk HBrk hL3 HF hfa h0 h4 hd hfl;go_wp2_with fail;generalize W0.alloc (.cells #[.int .i64 kd,.int .u16 c,.int .u8 jt,.int .u8 jf,.int .u32 ik,.int .i64 tg] 91)=V3 at*;refine(HFk.out _ hs2).mono ?_;rintro _ V4⟨rfl,hV4⟩;rw[hV4];clear hV4;have hV0:W0.heap.size<=V3.heap.size:=bJ hxl;clear HFk hs2 hxl;have hdi:(d:Int)<=4096:=by omega
   by_cases h3:kd=3
   ·subst h3;have HL4:Hid (LdJ l k' ms (ol++[⟨5,0,0,(d:Int)⟩],mk)):=HL3.out;have hbj:Below V3.heap.size V3 ((V3.alloc (I6 5 0 0 d)).alloc (I6 c 0 0 ik)):=((af _ _).alloc (ae _) _).alloc (by simp) _;have J8:=(oz.new V3 68 (.int .u16 5) (.int .u8 0) (.int .u8 0) (.int .u32 (d:Int))).ey ((af _ _).alloc (ae _) (I6 c 0 0 ik));have J9:=oz.new (V3.alloc (I6 5 0 0 d)) 68 (.int .u16 c) (.int .u8 0) (.int .u8 0) (.int .u32 ik);rw[show(V3.alloc (I6 5 0 0 d)).heap.size=V3.heap.size+1 by simp]at J9;have B3:=eo hbj B2;have O3:=nA O2 hbj;have I3:=jE I2 hbj;have xk:=eh hbj x0;have xk0:((V3.alloc (I6 5 0 0 d)).alloc (I6 c 0 0 ik)).cell? ⟨W0.heap.size,0,none⟩=_:=eh (((af _ _).alloc (ae _) _).alloc (by simp) _) x0;have x1a:=eh ((af _ _).alloc (ae _) (I6 5 0 0 d)) x1;have x4a:=eh ((af _ _).alloc (ae _) (I6 5 0 0 d)) x4;clear B2 O2 I2 x0 x1 x2 x3 x4 x5;obtain⟨_,y0,y1,y2,y3,_⟩:=J8;clear J9 HL3;have hsz:=B3.size;have hbs9:w.heap.size<=(((V3.alloc (I6 5 0 0 d)).alloc (I6 c 0 0 ik)).alloc (I6 5 0 0 d)).heap.size:=by simp;omega
    have hbm9:ol.length+1<=maxLen:=by unfold maxLen;omega
    have hbd9:(ol.length+1)*8<=140737488355328:=by omega
    go_wp2_with(at_builtin;refine wpList_append_own _ rfl (.tmp 65) (.tmp 67) 34 rfl (w.heap.size) 68 i1 _ 4 8 Tryz.underlying34 hi1 hy0 hy1 hy2 rfl (by decide) (.slice ai ol.length ci) ol.length (ff ol) rfl (bh I3 _) ⟨V3.heap.size+1+1,0,none⟩ 1 1 [.int .u16 5,.int .u8 0,.int .u8 0,.int .u32 (d:Int)] rfl rfl (iZ (by simp)) (by simp[Value.oneCell']) hbm9 hbd9 hbs9 ?_);intro v9 w9 ow gr _;have p9:gS w9 w.heap.size v9 (ol++[⟨5,0,0,(d:Int)⟩]):=iG rfl ow;have o9:mE w9 w.heap.size (.slice am ms.length cm) ms:=aA (bh O3 _) gr (oh I3 O3 (by decide));have B9:Below w.heap.size w w9:=(B3.alloc hsz _).grown gr hbs9 (fun t ht=>(bO I3 t ht).1);clear ow gr hbm9 hbd9 hbs9;clear O3 B3 I3 y0 y1 y2 y3 xk xk0 x1a x4a;go_wp2;go_roundw
    case rel=>exact⟨k',_,_,ms,(ol++[⟨5,0,0,(d:Int)⟩],mk),by omega,by first|rfl|go_num,rfl,rfl,p9,o9,by omega,HL4,B9⟩
    case measure=>simp[intOf]
   have g3:(kd==3)=false:=by simpa using h3
   by_cases h255:d<=255
   ·have hd5:(d:Int)<=255:=by omega
    have hwm8:(d:Int)%256=(d:Int):=by omega
    have HN:Hid (brI ⟨kd,⟨c,jt,jf,ik⟩,tg⟩ (d:Int)=[kG ⟨c,jt,jf,ik⟩ (kd==1) (d:Int)]):=by
     show _=_;unfold brI;simp only;rw[if_neg h3,if_pos hd5]
    rw[HN.out]at HL3;clear HN h3;by_cases h1:kd=1
    ·subst h1;have HL4:Hid (LdJ l k' ms (ol++[⟨c,(d:Int),0,ik⟩],mk)):=HL3.out;have hbj:Below V3.heap.size V3 ((V3.alloc (I6 5 0 0 d)).alloc (I6 c (d:Int) 0 ik)):=((af _ _).alloc (ae _) _).alloc (by simp) _;have J8:=(oz.new V3 68 (.int .u16 5) (.int .u8 0) (.int .u8 0) (.int .u32 (d:Int))).ey ((af _ _).alloc (ae _) (I6 c (d:Int) 0 ik));have J9:=oz.new (V3.alloc (I6 5 0 0 d)) 68 (.int .u16 c) (.int .u8 (d:Int)) (.int .u8 0) (.int .u32 ik);rw[show(V3.alloc (I6 5 0 0 d)).heap.size=V3.heap.size+1 by simp]at J9;have B3:=eo hbj B2;have O3:=nA O2 hbj;have I3:=jE I2 hbj;have xk:=eh hbj x0;have xk0:((V3.alloc (I6 5 0 0 d)).alloc (I6 c 0 0 ik)).cell? ⟨W0.heap.size,0,none⟩=_:=eh (((af _ _).alloc (ae _) _).alloc (by simp) _) x0;have x1a:=eh ((af _ _).alloc (ae _) (I6 5 0 0 d)) x1;have x4a:=eh ((af _ _).alloc (ae _) (I6 5 0 0 d)) x4;clear B2 O2 I2 x0 x1 x2 x3 x4 x5;obtain⟨jl,e0,e1,e2,e3,jf9⟩:=J9;clear jf9 HL3 J8;have hsz:=B3.size;have hbs9:w.heap.size<=(((V3.alloc (I6 5 0 0 d)).alloc (I6 c (d:Int) 0 ik)).alloc (I6 c (d:Int) 0 ik)).heap.size:=by simp;omega
     have hbm9:ol.length+1<=maxLen:=by unfold maxLen;omega
     have hbd9:(ol.length+1)*8<=140737488355328:=by omega
     go_wp2_with(at_builtin;refine wpList_append_own _ rfl (.tmp 80) (.tmp 82) 34 rfl (w.heap.size) 68 i1 _ 4 8 Tryz.underlying34 hi1 hy0 hy1 hy2 rfl (by decide) (.slice ai ol.length ci) ol.length (ff ol) rfl (bh I3 _) ⟨V3.heap.size+1+1,0,none⟩ 1 1 [.int .u16 c,.int .u8 (d:Int),.int .u8 0,.int .u32 ik] rfl rfl (iZ (by simp)) (by simp[Value.oneCell']) hbm9 hbd9 hbs9 ?_);intro v9 w9 ow gr _;have p9:gS w9 w.heap.size v9 (ol++[⟨c,(d:Int),0,ik⟩]):=iG rfl ow;have o9:mE w9 w.heap.size (.slice am ms.length cm) ms:=aA (bh O3 _) gr (oh I3 O3 (by decide));have B9:Below w.heap.size w w9:=(B3.alloc hsz _).grown gr hbs9 (fun t ht=>(bO I3 t ht).1);clear ow gr hbm9 hbd9 hbs9;clear O3 B3 I3 e0 e1 e2 e3 xk xk0 jl x1a x4a;go_wp2;go_roundw
     case rel=>exact⟨k',_,_,ms,(ol++[⟨c,(d:Int),0,ik⟩],mk),by omega,by first|rfl|go_num,rfl,rfl,p9,o9,by omega,HL4,B9⟩
     case measure=>simp[intOf]
    have g1:(kd==1)=false:=by simpa using h1
    rw[g1]at HL3;have HL4:Hid (LdJ l k' ms (ol++[⟨c,0,(d:Int),ik⟩],mk)):=HL3.out;have hbj:Below V3.heap.size V3 ((V3.alloc (I6 5 0 0 d)).alloc (I6 c 0 d ik)):=((af _ _).alloc (ae _) _).alloc (by simp) _;have J8:=(oz.new V3 68 (.int .u16 5) (.int .u8 0) (.int .u8 0) (.int .u32 (d:Int))).ey ((af _ _).alloc (ae _) (I6 c 0 d ik));have J9:=oz.new (V3.alloc (I6 5 0 0 d)) 68 (.int .u16 c) (.int .u8 0) (.int .u8 (d:Int)) (.int .u32 ik);rw[show(V3.alloc (I6 5 0 0 d)).heap.size=V3.heap.size+1 by simp]at J9;have B3:=eo hbj B2;have O3:=nA O2 hbj;have I3:=jE I2 hbj;have xk:=eh hbj x0;have xk0:((V3.alloc (I6 5 0 0 d)).alloc (I6 c 0 0 ik)).cell? ⟨W0.heap.size,0,none⟩=_:=eh (((af _ _).alloc (ae _) _).alloc (by simp) _) x0;have x1a:=eh ((af _ _).alloc (ae _) (I6 5 0 0 d)) x1;have x4a:=eh ((af _ _).alloc (ae _) (I6 5 0 0 d)) x4;clear B2 O2 I2 x0 x1 x2 x3 x4 x5;obtain⟨jl,e0,e1,e2,e3,jf9⟩:=J9;clear jf9 HL3 J8;have hsz:=B3.size;have hbs9:w.heap.size<=(((V3.alloc (I6 5 0 0 d)).alloc (I6 c 0 d ik)).alloc (I6 c 0 d ik)).heap.size:=by simp;omega
    have hbm9:ol.length+1<=maxLen:=by unfold maxLen;omega
    have hbd9:(ol.length+1)*8<=140737488355328:=by omega
    go_wp2_with(at_builtin;refine wpList_append_own _ rfl (.tmp 80) (.tmp 82) 34 rfl (w.heap.size) 68 i1 _ 4 8 Tryz.underlying34 hi1 hy0 hy1 hy2 rfl (by decide) (.slice ai ol.length ci) ol.length (ff ol) rfl (bh I3 _) ⟨V3.heap.size+1+1,0,none⟩ 1 1 [.int .u16 c,.int .u8 0,.int .u8 (d:Int),.int .u32 ik] rfl rfl (iZ (by simp)) (by simp[Value.oneCell']) hbm9 hbd9 hbs9 ?_);intro v9 w9 ow gr _;have p9:gS w9 w.heap.size v9 (ol++[⟨c,0,(d:Int),ik⟩]):=iG rfl ow;have o9:mE w9 w.heap.size (.slice am ms.length cm) ms:=aA (bh O3 _) gr (oh I3 O3 (by decide));have B9:Below w.heap.size w w9:=(B3.alloc hsz _).grown gr hbs9 (fun t ht=>(bO I3 t ht).1);clear ow gr hbm9 hbd9 hbs9;clear O3 B3 I3 e0 e1 e2 e3 xk xk0 jl x1a x4a;go_wp2;go_roundw
    case rel=>exact⟨k',_,_,ms,(ol++[⟨c,0,(d:Int),ik⟩],mk),by omega,by first|rfl|go_num,rfl,rfl,p9,o9,by omega,HL4,B9⟩
    case measure=>simp[intOf]
   have hd5:¬(d:Int)<=255:=by omega
   have HN:Hid (brI ⟨kd,⟨c,jt,jf,ik⟩,tg⟩ (d:Int)=[⟨5,0,0,(d:Int)⟩,kG ⟨c,jt,jf,ik⟩ (!(kd==1)) 1]):=by
    show _=_;unfold brI;simp only;rw[if_neg h3,if_neg hd5]
   rw[HN.out]at HL3;clear HN h3;by_cases h1:kd=1
   ·subst h1;have HL4:Hid (LdJ l k' ms (ol++[⟨5,0,0,(d:Int)⟩]++[⟨c,0,1,ik⟩],mk)):=by
     have:=HL3.out;show LdJ _ _ _ _;rw[aF];exact this
    have hbj:Below V3.heap.size V3 ((V3.alloc (I6 5 0 0 d)).alloc (I6 c 0 0 ik)):=((af _ _).alloc (ae _) _).alloc (by simp) _;have J8:=(oz.new V3 68 (.int .u16 5) (.int .u8 0) (.int .u8 0) (.int .u32 (d:Int))).ey ((af _ _).alloc (ae _) (I6 c 0 0 ik));have J9:=oz.new (V3.alloc (I6 5 0 0 d)) 68 (.int .u16 c) (.int .u8 0) (.int .u8 0) (.int .u32 ik);rw[show(V3.alloc (I6 5 0 0 d)).heap.size=V3.heap.size+1 by simp]at J9;have B3:=eo hbj B2;have O3:=nA O2 hbj;have I3:=jE I2 hbj;have xk:=eh hbj x0;have xk0:((V3.alloc (I6 5 0 0 d)).alloc (I6 c 0 0 ik)).cell? ⟨W0.heap.size,0,none⟩=_:=eh (((af _ _).alloc (ae _) _).alloc (by simp) _) x0;have x1a:=eh ((af _ _).alloc (ae _) (I6 5 0 0 d)) x1;have x4a:=eh ((af _ _).alloc (ae _) (I6 5 0 0 d)) x4;clear B2 O2 I2 x0 x1 x2 x3 x4 x5;obtain⟨j8l,y0,y1,y2,y3,_⟩:=J8;have hw3s:((V3.alloc (I6 5 0 0 d)).alloc (I6 c 0 0 ik)).heap.size=V3.heap.size+2:=by simp
    have hsz:=B3.size;have hbsa:w.heap.size<=(((V3.alloc (I6 5 0 0 d)).alloc (I6 c 0 0 ik)).alloc (I6 5 0 0 d)).heap.size:=by simp;omega
    have hbma:ol.length+1<=maxLen:=by unfold maxLen;omega
    have hbda:(ol.length+1)*8<=140737488355328:=by omega
    go_wp2_with(at_builtin;refine wpList_append_lies _ rfl (.tmp 84) (.tmp 86) 34 rfl (w.heap.size) 68 i1 _ 4 8 Tryz.underlying34 hi1 hy0 hy1 hy2 rfl (by decide) (.slice ai ol.length ci) ol.length (ff ol) rfl (bh I3 _) ⟨V3.heap.size+1+1,0,none⟩ 1 1 [.int .u16 5,.int .u8 0,.int .u8 0,.int .u32 (d:Int)] rfl rfl (iZ (by simp)) (by simp[Value.oneCell']) (by omega) hbma hbda hbsa _ rfl ?_);intro gg cg w8 ow gr hat _;have p8:gS w8 w.heap.size (.slice (some ⟨gg,0,none⟩) (ol.length+1) cg) (ol++[⟨5,0,0,(d:Int)⟩]):=iG rfl ow;have o8:mE w8 w.heap.size (.slice am ms.length cm) ms:=aA (bh O3 _) gr (oh I3 O3 (by decide));have B8:Below w.heap.size w w8:=(B3.alloc hsz _).grown gr hbsa (fun t ht=>(bO I3 t ht).1);have hD9:∀q,(Value.slice ai ol.length ci).ownBlock=some q->q≠V3.heap.size+1:=fun q hq=>by have:=hqi q hq;omega
    have J9a:=(J9.ey ((af _ _).alloc (ae _) (I6 5 0 0 d))).grown gr (fun e=>hD9 _ e.symm rfl);have hW0n:some W0.heap.size≠(Value.slice ai ol.length ci).ownBlock:=fun e=>by have:=hqi W0.heap.size e.symm;omega
    have hW0l:W0.heap.size<(((V3.alloc (I6 5 0 0 d)).alloc (I6 c 0 0 ik)).alloc (I6 5 0 0 d)).heap.size:=by simp;omega
    have xk8:w8.cell? ⟨W0.heap.size,0,none⟩=some (.int .i64 1):=(gr.cell_far ⟨W0.heap.size,0,none⟩ hW0l hW0n).trans (eh ((af _ _).alloc (ae _) _) xk);have hgn:gg≠V3.heap.size+1:=by
     rcases hat with q|q
     ·exact hD9 gg q
     first|omega|(simp at q;omega)
    have O8t:(w8.setCell ⟨V3.heap.size+1,2,none⟩ (.int .u8 1)).heap.size=w8.heap.size:=by simp
    have I9:gS (w8.setCell ⟨V3.heap.size+1,2,none⟩ (.int .u8 1)) w.heap.size (.slice (some ⟨gg,0,none⟩) (ol.length+1) cg) (ol++[⟨5,0,0,(d:Int)⟩]):=nW p8 (fun q hq e=>by
     have:gg=q:=by simpa[Value.ownBlock]using hq
     exact absurd (this.trans e) hgn)
    have M9:mE (w8.setCell ⟨V3.heap.size+1,2,none⟩ (.int .u8 1)) w.heap.size (.slice am ms.length cm) ms:=nW o8 (fun q hq e=>by
     have hlt8:=(bO O3 q hq).2
     subst e
     obtain⟨_,⟨e1,_⟩|⟨g,cap,cur,e1,hb,hg,_⟩⟩:=O3
     ·rw[e1]at hq;cases hq
     rw[e1]at hq
     have:g=V3.heap.size+1:=by simpa[Value.ownBlock]using hq
     subst this
     have e2:((V3.alloc (I6 5 0 0 d)).alloc (I6 c 0 0 ik)).heap[V3.heap.size+1]? =some (.cells #[.int .u16 c,.int .u8 0,.int .u8 0,.int .u32 ik] 68 (0,0)):=by
      have:=heap_alloc_new (V3.alloc (I6 5 0 0 d)) (I6 c 0 0 ik)
      rw[show(V3.alloc (I6 5 0 0 d)).heap.size=V3.heap.size+1 by simp]at this
      exact this
     rw[e2]at hg
     simp only[bz,Obj.cells.injEq]at hg
     exact absurd hg.2.1 (by decide))
    have N9:Below w.heap.size w (w8.setCell ⟨V3.heap.size+1,2,none⟩ (.int .u8 1)):=B8.setCell (p:=⟨V3.heap.size+1,2,none⟩) (by show w.heap.size<=V3.heap.size+1;have:=hWs;omega) _;obtain⟨jl,z0,z1,z2,z3,jf9⟩:=J9a;have zf:=jf9 2;have e0:(w8.setCell ⟨V3.heap.size+1,2,none⟩ (.int .u8 1)).cell? ⟨V3.heap.size+1,0,none⟩=some (.int .u16 c):=kI (by omega) z0;have e1:(w8.setCell ⟨V3.heap.size+1,2,none⟩ (.int .u8 1)).cell? ⟨V3.heap.size+1,1,none⟩=some (.int .u8 0):=kI (by omega) z1;have e2:(w8.setCell ⟨V3.heap.size+1,2,none⟩ (.int .u8 1)).cell? ⟨V3.heap.size+1,2,none⟩=some (.int .u8 1):=aG _ _ _ z2;have e3:(w8.setCell ⟨V3.heap.size+1,2,none⟩ (.int .u8 1)).cell? ⟨V3.heap.size+1,3,none⟩=some (.int .u32 ik):=kI (by omega) z3;obtain⟨vv,hvv⟩:∃vv,Value.slice (some ⟨gg,0,none⟩) (ol.length+1) cg=vv:=⟨_,rfl⟩;clear jf9 HL3 J9 ow gr hat y0 y1 y2 y3 xk xk0 x1a x4a I3 O3 B3 p8 o8 B8 hbma hbda hbsa hD9;have hszb:=N9.size;rw[hvv]at I9⊢;have hol1:(ol++[(⟨5,0,0,(d:Int)⟩:I)]).length=ol.length+1:=by simp
    have hbsb:w.heap.size<=((w8.setCell ⟨V3.heap.size+1,2,none⟩ (.int .u8 1)).alloc (I6 c 0 1 ik)).heap.size:=by simp;omega
    have hbmb:(ol++[(⟨5,0,0,(d:Int)⟩:I)]).length+1<=maxLen:=by rw[hol1];unfold maxLen;omega
    have hbdb:((ol++[(⟨5,0,0,(d:Int)⟩:I)]).length+1)*8<=140737488355328:=by rw[hol1];omega
    go_wp2_with(at_builtin;refine wpList_append_own _ rfl (.tmp 93) (.tmp 95) 34 rfl (w.heap.size) 68 i1 _ 4 8 Tryz.underlying34 hi1 hy0 hy1 hy2 rfl (by decide) vv (ol++[(⟨5,0,0,(d:Int)⟩:I)]).length (ff (ol++[⟨5,0,0,(d:Int)⟩])) rfl (bh I9 _) ⟨w8.heap.size,0,none⟩ 1 1 [.int .u16 c,.int .u8 0,.int .u8 1,.int .u32 ik] rfl rfl (iZ (by simp)) (by simp[Value.oneCell']) hbmb hbdb hbsb ?_);intro v9 w9 ow gr _;have p9:gS w9 w.heap.size v9 ((ol++[⟨5,0,0,(d:Int)⟩])++[⟨c,0,1,ik⟩]):=iG (by simp) ow;have o9:mE w9 w.heap.size (.slice am ms.length cm) ms:=aA (bh M9 _) gr (oh I9 M9 (by decide));have B9:Below w.heap.size w w9:=(N9.alloc hszb _).grown gr hbsb (fun t ht=>(bO I9 t ht).1);clear ow gr hbmb hbdb hbsb;clear M9 N9 I9 e0 e1 e2 e3 z0 z1 z2 z3 zf xk8 jl;go_wp2;go_roundw
    case rel=>exact⟨k',_,_,ms,(ol++[⟨5,0,0,(d:Int)⟩]++[⟨c,0,1,ik⟩],mk),by omega,by first|rfl|go_num,rfl,rfl,p9,o9,by omega,HL4,B9⟩
    case measure=>simp[intOf]
   have g1:(kd==1)=false:=by simpa using h1
   rw[g1]at HL3;have HL4:Hid (LdJ l k' ms (ol++[⟨5,0,0,(d:Int)⟩]++[⟨c,1,0,ik⟩],mk)):=by
    have:=HL3.out;show LdJ _ _ _ _;rw[aF];exact this
   have hbj:Below V3.heap.size V3 ((V3.alloc (I6 5 0 0 d)).alloc (I6 c 0 0 ik)):=((af _ _).alloc (ae _) _).alloc (by simp) _;have J8:=(oz.new V3 68 (.int .u16 5) (.int .u8 0) (.int .u8 0) (.int .u32 (d:Int))).ey ((af _ _).alloc (ae _) (I6 c 0 0 ik));have J9:=oz.new (V3.alloc (I6 5 0 0 d)) 68 (.int .u16 c) (.int .u8 0) (.int .u8 0) (.int .u32 ik);rw[show(V3.alloc (I6 5 0 0 d)).heap.size=V3.heap.size+1 by simp]at J9;have B3:=eo hbj B2;have O3:=nA O2 hbj;have I3:=jE I2 hbj;have xk:=eh hbj x0;have xk0:((V3.alloc (I6 5 0 0 d)).alloc (I6 c 0 0 ik)).cell? ⟨W0.heap.size,0,none⟩=_:=eh (((af _ _).alloc (ae _) _).alloc (by simp) _) x0;have x1a:=eh ((af _ _).alloc (ae _) (I6 5 0 0 d)) x1;have x4a:=eh ((af _ _).alloc (ae _) (I6 5 0 0 d)) x4;clear B2 O2 I2 x0 x1 x2 x3 x4 x5;obtain⟨j8l,y0,y1,y2,y3,_⟩:=J8;have hw3s:((V3.alloc (I6 5 0 0 d)).alloc (I6 c 0 0 ik)).heap.size=V3.heap.size+2:=by simp
   have hsz:=B3.size;have hbsa:w.heap.size<=(((V3.alloc (I6 5 0 0 d)).alloc (I6 c 0 0 ik)).alloc (I6 5 0 0 d)).heap.size:=by simp;omega
   have hbma:ol.length+1<=maxLen:=by unfold maxLen;omega
   have hbda:(ol.length+1)*8<=140737488355328:=by omega
   go_wp2_with(at_builtin;refine wpList_append_lies _ rfl (.tmp 84) (.tmp 86) 34 rfl (w.heap.size) 68 i1 _ 4 8 Tryz.underlying34 hi1 hy0 hy1 hy2 rfl (by decide) (.slice ai ol.length ci) ol.length (ff ol) rfl (bh I3 _) ⟨V3.heap.size+1+1,0,none⟩ 1 1 [.int .u16 5,.int .u8 0,.int .u8 0,.int .u32 (d:Int)] rfl rfl (iZ (by simp)) (by simp[Value.oneCell']) (by omega) hbma hbda hbsa _ rfl ?_);intro gg cg w8 ow gr hat _;have p8:gS w8 w.heap.size (.slice (some ⟨gg,0,none⟩) (ol.length+1) cg) (ol++[⟨5,0,0,(d:Int)⟩]):=iG rfl ow;have o8:mE w8 w.heap.size (.slice am ms.length cm) ms:=aA (bh O3 _) gr (oh I3 O3 (by decide));have B8:Below w.heap.size w w8:=(B3.alloc hsz _).grown gr hbsa (fun t ht=>(bO I3 t ht).1);have hD9:∀q,(Value.slice ai ol.length ci).ownBlock=some q->q≠V3.heap.size+1:=fun q hq=>by have:=hqi q hq;omega
   have J9a:=(J9.ey ((af _ _).alloc (ae _) (I6 5 0 0 d))).grown gr (fun e=>hD9 _ e.symm rfl);have hW0n:some W0.heap.size≠(Value.slice ai ol.length ci).ownBlock:=fun e=>by have:=hqi W0.heap.size e.symm;omega
   have hW0l:W0.heap.size<(((V3.alloc (I6 5 0 0 d)).alloc (I6 c 0 0 ik)).alloc (I6 5 0 0 d)).heap.size:=by simp;omega
   have xk8:w8.cell? ⟨W0.heap.size,0,none⟩=some (.int .i64 kd):=(gr.cell_far ⟨W0.heap.size,0,none⟩ hW0l hW0n).trans (eh ((af _ _).alloc (ae _) _) xk);have hgn:gg≠V3.heap.size+1:=by
    rcases hat with q|q
    ·exact hD9 gg q
    first|omega|(simp at q;omega)
   have O8t:(w8.setCell ⟨V3.heap.size+1,1,none⟩ (.int .u8 1)).heap.size=w8.heap.size:=by simp
   have I9:gS (w8.setCell ⟨V3.heap.size+1,1,none⟩ (.int .u8 1)) w.heap.size (.slice (some ⟨gg,0,none⟩) (ol.length+1) cg) (ol++[⟨5,0,0,(d:Int)⟩]):=nW p8 (fun q hq e=>by
    have:gg=q:=by simpa[Value.ownBlock]using hq
    exact absurd (this.trans e) hgn)
   have M9:mE (w8.setCell ⟨V3.heap.size+1,1,none⟩ (.int .u8 1)) w.heap.size (.slice am ms.length cm) ms:=nW o8 (fun q hq e=>by
    have hlt8:=(bO O3 q hq).2
    subst e
    obtain⟨_,⟨e1,_⟩|⟨g,cap,cur,e1,hb,hg,_⟩⟩:=O3
    ·rw[e1]at hq;cases hq
    rw[e1]at hq
    have:g=V3.heap.size+1:=by simpa[Value.ownBlock]using hq
    subst this
    have e2:((V3.alloc (I6 5 0 0 d)).alloc (I6 c 0 0 ik)).heap[V3.heap.size+1]? =some (.cells #[.int .u16 c,.int .u8 0,.int .u8 0,.int .u32 ik] 68 (0,0)):=by
     have:=heap_alloc_new (V3.alloc (I6 5 0 0 d)) (I6 c 0 0 ik)
     rw[show(V3.alloc (I6 5 0 0 d)).heap.size=V3.heap.size+1 by simp]at this
     exact this
    rw[e2]at hg
    simp only[bz,Obj.cells.injEq]at hg
    exact absurd hg.2.1 (by decide))
   have N9:Below w.heap.size w (w8.setCell ⟨V3.heap.size+1,1,none⟩ (.int .u8 1)):=B8.setCell (p:=⟨V3.heap.size+1,1,none⟩) (by show w.heap.size<=V3.heap.size+1;have:=hWs;omega) _;obtain⟨jl,z0,z1,z2,z3,jf9⟩:=J9a;have zf:=jf9 1;have e0:(w8.setCell ⟨V3.heap.size+1,1,none⟩ (.int .u8 1)).cell? ⟨V3.heap.size+1,0,none⟩=some (.int .u16 c):=kI (by omega) z0;have e1:(w8.setCell ⟨V3.heap.size+1,1,none⟩ (.int .u8 1)).cell? ⟨V3.heap.size+1,1,none⟩=some (.int .u8 1):=aG _ _ _ z1;have e2:(w8.setCell ⟨V3.heap.size+1,1,none⟩ (.int .u8 1)).cell? ⟨V3.heap.size+1,2,none⟩=some (.int .u8 0):=kI (by omega) z2;have e3:(w8.setCell ⟨V3.heap.size+1,1,none⟩ (.int .u8 1)).cell? ⟨V3.heap.size+1,3,none⟩=some (.int .u32 ik):=kI (by omega) z3;obtain⟨vv,hvv⟩:∃vv,Value.slice (some ⟨gg,0,none⟩) (ol.length+1) cg=vv:=⟨_,rfl⟩;clear jf9 HL3 J9 ow gr hat y0 y1 y2 y3 xk xk0 x1a x4a I3 O3 B3 p8 o8 B8 hbma hbda hbsa hD9;have hszb:=N9.size;rw[hvv]at I9⊢;have hol1:(ol++[(⟨5,0,0,(d:Int)⟩:I)]).length=ol.length+1:=by simp
   have hbsb:w.heap.size<=((w8.setCell ⟨V3.heap.size+1,1,none⟩ (.int .u8 1)).alloc (I6 c 1 0 ik)).heap.size:=by simp;omega
   have hbmb:(ol++[(⟨5,0,0,(d:Int)⟩:I)]).length+1<=maxLen:=by rw[hol1];unfold maxLen;omega
   have hbdb:((ol++[(⟨5,0,0,(d:Int)⟩:I)]).length+1)*8<=140737488355328:=by rw[hol1];omega
   go_wp2_with(at_builtin;refine wpList_append_own _ rfl (.tmp 93) (.tmp 95) 34 rfl (w.heap.size) 68 i1 _ 4 8 Tryz.underlying34 hi1 hy0 hy1 hy2 rfl (by decide) vv (ol++[(⟨5,0,0,(d:Int)⟩:I)]).length (ff (ol++[⟨5,0,0,(d:Int)⟩])) rfl (bh I9 _) ⟨w8.heap.size,0,none⟩ 1 1 [.int .u16 c,.int .u8 1,.int .u8 0,.int .u32 ik] rfl rfl (iZ (by simp)) (by simp[Value.oneCell']) hbmb hbdb hbsb ?_);intro v9 w9 ow gr _;have p9:gS w9 w.heap.size v9 ((ol++[⟨5,0,0,(d:Int)⟩])++[⟨c,1,0,ik⟩]):=iG (by simp) ow;have o9:mE w9 w.heap.size (.slice am ms.length cm) ms:=aA (bh M9 _) gr (oh I9 M9 (by decide));have B9:Below w.heap.size w w9:=(N9.alloc hszb _).grown gr hbsb (fun t ht=>(bO I9 t ht).1);clear ow gr hbmb hbdb hbsb;clear M9 N9 I9 e0 e1 e2 e3 z0 z1 z2 z3 zf xk8 jl;go_wp2;go_roundw
   case rel=>exact⟨k',_,_,ms,(ol++[⟨5,0,0,(d:Int)⟩]++[⟨c,1,0,ik⟩],mk),by omega,by first|rfl|go_num,rfl,rfl,p9,o9,by omega,HL4,B9⟩
   case measure=>simp[intOf]
  have HPo:Hid (sP l w (.returned (.slice ai st.1.length ci)) W0):=⟨_,k,ms,st,rfl,hOI,HOk.out,by omega,B⟩;clear HP HF H0 HLab HPl HBr HLen HOk hO hOI;generalize st.1.length=ln at*;by_cases hk1:0<k
  ·obtain⟨k',rfl⟩:∃k',k=k'+1:=⟨k-1,by omega⟩;have hk':((k'+1:Nat):Int)-1=(k':Int):=by omega
   rw[hk'];have hkk:(0:Int)<=(k':Int):=by omega
   have hbig:¬(ln:Int)<=4096:=by omega
   clear hk0;go_wp2;go_ret;exact HPo.out
  have hk1:k=0:=by omega
  subst hk1;go_wp2;go_ret;exact HPo.out
end Go.Proofs.YtdihdapmphkhpaaGreat
