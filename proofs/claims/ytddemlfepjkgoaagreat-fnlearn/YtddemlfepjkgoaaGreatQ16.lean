import Derived.Test.YtddemlfepjkgoaaGreatQ15
set_option linter.all false
set_option maxRecDepth 200000
set_option maxHeartbeats 16000000
namespace Go.Proofs.YtddemlfepjkgoaaGreat
open Go.RowKit
theorem mask_bit{vs:List Nat}(hv:All64 vs)(h0:0<vs.length){q:Nat}(hq:q<64):∃p:Nat,p<18446744073709551616∧IntKind.u64.wrap (2^q)=(p:Int)∧
 (∀j,bits .and .u64 ((vs.getD j 0:Nat):Int) (p:Int)=0↔(vs.getD j 0).testBit q=false)∧
 ((onesN vs q vs.length=0∨onesN vs q vs.length=vs.length)->bits .or .u64 ((topN (covA vs) (q+1):Nat):Int) (p:Int)=((topN (covA vs) q:Nat):Int))∧
 (¬(onesN vs q vs.length=0∨onesN vs q vs.length=vs.length)->topN (covA vs) (q+1)=topN (covA vs) q)∧
 (onesN vs q vs.length=vs.length->bits .or .u64 ((topN (covB vs) (q+1):Nat):Int) (p:Int)=((topN (covB vs) q:Nat):Int))∧
 (¬onesN vs q vs.length=vs.length->topN (covB vs) (q+1)=topN (covB vs) q):=by
 have h1:2^q<18446744073709551616:=Nat.pow_lt_pow_right (a:=2) (by omega) hq
 have lA:=covA_lt vs
 have lB:=covB_lt hv
 have tA:=topN_le (covA vs) (q+1)
 have tB:=topN_le (covB vs) (q+1)
 refine⟨2^q,h1,shl_bit hq,fun j=> ?_,fun h=> ?_,fun h=> ?_,fun h=> ?_,fun h=> ?_⟩
 ·rw[u64_and _ _ (hv j) h1,<-and_bit];omega
 ·rw[u64_or _ _ (by omega) h1,topN_yes ((covA_bit hv h0 hq).2 h)]
 ·exact topN_no (by rw[<-Bool.not_eq_true];exact fun e=>h ((covA_bit hv h0 hq).1 e))
 ·rw[u64_or _ _ (by omega) h1,topN_yes ((covB_bit hv h0 hq).2 h)]
 ·exact topN_no (by rw[<-Bool.not_eq_true];exact fun e=>h ((covB_bit hv h0 hq).1 e))
theorem l4mask_any(a:Option Addr)(cap:Nat)(vs:List Nat)(w:World)(hs:USrc w a (natV vs))(h0:0<vs.length)(hn:vs.length<=16777216)(hv:All64 vs):
 Calls Tryz.prog 110 #[.slice a vs.length cap] w fun e w'=>e=.returned (conV ⟨1,covA vs,covB vs⟩)∧Below w.heap.size w w':=by
 obtain⟨b,o,rfl,hb,hc⟩:=hs.natAt h0;have HC:Hid (∀wr,Below w.heap.size w wr->∀j,j<vs.length->wr.cell? ⟨b,o+j,none⟩=some (.int .u64 ((vs.getD j 0:Nat):Int))):=fun wr hB j hj=>(hB.cell (p:=⟨b,o+j,none⟩) hb).trans (hc j hj)
 have HV:Hid (∀j,vs.getD j 0<18446744073709551616):=hv;have HO:Hid (∀k j,onesN vs k (j+1)=onesN vs k j+(if(vs.getD j 0).testBit k=true then 1 else 0)):=fun k j=>rfl
 have HOl:Hid (∀k j,onesN vs k j<=j):=onesN_le vs;have HO0:Hid (∀k,onesN vs k 0=0):=fun k=>rfl
 have HB:Hid (∀q,q<64->∃p:Nat,p<18446744073709551616∧IntKind.u64.wrap (2^q)=(p:Int)∧
  (∀j,bits .and .u64 ((vs.getD j 0:Nat):Int) (p:Int)=0↔(vs.getD j 0).testBit q=false)∧
  ((onesN vs q vs.length=0∨onesN vs q vs.length=vs.length)->bits .or .u64 ((topN (covA vs) (q+1):Nat):Int) (p:Int)=((topN (covA vs) q:Nat):Int))∧
  (¬(onesN vs q vs.length=0∨onesN vs q vs.length=vs.length)->topN (covA vs) (q+1)=topN (covA vs) q)∧
  (onesN vs q vs.length=vs.length->bits .or .u64 ((topN (covB vs) (q+1):Nat):Int) (p:Int)=((topN (covB vs) q:Nat):Int))∧
  (¬onesN vs q vs.length=vs.length->topN (covB vs) (q+1)=topN (covB vs) q)):=fun q hq=>mask_bit hv h0 hq
 have HA0:Hid (topN (covA vs) 0=covA vs):=topN_0 _;have HB0:Hid (topN (covB vs) 0=covB vs):=topN_0 _;have HA64:Hid (topN (covA vs) 64=0):=topN_64 (covA_lt vs);have HB64:Hid (topN (covB vs) 64=0):=topN_64 (covB_lt hv);clear hs hc hv;generalize topN (covA vs)=TA at*;generalize topN (covB vs)=TB at*;generalize covA vs=A at*;generalize covB vs=B at*;generalize vs.length=n at*;generalize onesN vs=O at*;go_enter Tryz.func110,Tryz.ntmps110;go_wp2_with fail;have T:Two w ((w.alloc (.cells #[.int .i64 0,.int .u64 0,.int .u64 0] 94)).alloc (.cells #[.int .i64 1,.int .u64 0,.int .u64 0] 94)) 1 0 0:=Two.start rfl;generalize(w.alloc (.cells #[.int .i64 0,.int .u64 0,.int .u64 0] 94)).alloc (.cells #[.int .i64 1,.int .u64 0,.int .u64 0] 94)=W at*;go_loopw [4](fun i wr=>∃k:Nat,k<=64∧i=.int .i64 ((k:Int)-1)∧Two w wr 1 (TA k:Nat) (TB k:Nat))(fun i _=>(intOf i+1).toNat)
 case atStart=>exact⟨64,by omega,rfl,by rw[HA64.out,HB64.out];exact T⟩
 case round=>
  obtain⟨k,hk,rfl,Tr⟩:=hrel;clear T HA64 HB64;have HT:Hid (Two w wr 1 (TA k:Nat) (TB k:Nat)):=Tr;obtain⟨R,Y,Bw⟩:=Tr
  cases k with
  |zero=>
   rw[HA0.out,HB0.out]at Y;clear HC HV HO HOl HO0 HB HA0 HB0 HT;obtain⟨_,x0,x1,x2,f0,f1,f2⟩:=R;obtain⟨_,y0,y1,y2,g0,g1,g2⟩:=Y;go_wp2;exact bodyPost_ret (v:=conV ⟨1,A,B⟩) (by simp[results,Tryz.results110,go_sem,x0,x1,x2]) rfl ⟨rfl,below_set3 Bw (Nat.le_refl _) _ _ _⟩
  |succ q=>
   have hq:((q+1:Nat):Int)-1=(q:Int):=by omega
   rw[hq];clear hq HA0 HB0;obtain⟨p,hp,e1,HBit,hAy,hAn,hBy,hBn⟩:=HB.out q (by omega);have HBit:Hid (∀j,bits .and .u64 ((vs.getD j 0:Nat):Int) (p:Int)=0↔(vs.getD j 0).testBit q=false):=HBit;have HAy:Hid ((O q n=0∨O q n=n)->bits .or .u64 ((TA (q+1):Nat):Int) (p:Int)=((TA q:Nat):Int)):=hAy;have HAn:Hid (¬(O q n=0∨O q n=n)->TA (q+1)=TA q):=hAn;have HBy:Hid (O q n=n->bits .or .u64 ((TB (q+1):Nat):Int) (p:Int)=((TB q:Nat):Int)):=hBy;have HBn:Hid (¬O q n=n->TB (q+1)=TB q):=hBn;have HCr:Hid (∀j,j<n->wr.cell? ⟨b,o+j,none⟩=some (.int .u64 ((vs.getD j 0:Nat):Int))):=fun j hj=>HC.out wr Bw j hj
   clear HC HB hAy hAn hBy hBn R Bw;obtain⟨_,y0,y1,y2,g0,g1,g2⟩:=Y;have HY:Hid (wr.cell? ⟨w.heap.size+1,1,none⟩=some (.int .u64 ((TA (q+1):Nat):Int))∧wr.cell? ⟨w.heap.size+1,2,none⟩=some (.int .u64 ((TB (q+1):Nat):Int))∧wr.frozen? ⟨w.heap.size+1,1,none⟩=false∧wr.frozen? ⟨w.heap.size+1,2,none⟩=false):=⟨y1,y2,g1,g2⟩;clear y0 y1 y2 g0 g1 g2;have hO0:Hid (O q 0=0):=HO0.out q;have HOq:Hid (∀j,O q (j+1)=O q j+(if(vs.getD j 0).testBit q=true then 1 else 0)):=HO.out q;have HOlq:Hid (∀j,O q j<=j):=HOl.out q;clear HO HOl HO0;generalize O q=P at*;go_wp2_with fail;go_loopw [6,7](fun s i wx=>∃j:Nat,j<=n∧i=.int .i64 j∧s=.int .i64 (P j:Nat)∧wx=wr)(fun _ i _=>n-(intOf i).toNat)
   case atStart=>exact⟨0,by omega,rfl,by rw[hO0.out];rfl,rfl⟩
   case round=>
    obtain⟨j,hj,rfl,rfl,rfl⟩:=hrel;by_cases hlt:j<n
    ·have c1:=HCr.out j hlt;have E:=HOq.out j;have hPl:=HOlq.out j;have r:=HV.out j;have e2:=HBit.out j;clear HT HCr HOq HOlq HV HBit HAy HAn HBy HBn HY hO0;generalize vs.getD j 0=x at*
     cases ht:x.testBit q with
     |true=>
      have e3:¬bits .and .u64 (x:Int) (p:Int)=0:=fun h=>by rw[e2.1 h]at ht;exact absurd ht (by decide)
      rw[ht,if_pos rfl]at E;have E:Hid (P (j+1)=P j+1):=E;clear e2 ht;go_wp2;go_roundw
      case rel=>exact⟨j+1,by omega,by go_num,by rw[E.out];go_num,trivial⟩
      case measure=>simp[intOf];omega
     |false=>
      have e3:bits .and .u64 (x:Int) (p:Int)=0:=e2.2 ht;rw[ht,if_neg (by decide)]at E;have E:Hid (P (j+1)=P j):=E;clear e2 ht;go_wp2;go_roundw
      case rel=>exact⟨j+1,by omega,by go_num,by rw[E.out],trivial⟩
      case measure=>simp[intOf];omega
    have e:j=n:=by omega
    subst e;have hPl:=HOlq.out j;obtain⟨y1,y2,g1,g2⟩:=HY.out;clear HCr HOq HOlq HV HBit HY hO0;by_cases z1:P j=j
    ·have oA:=HAy.out (.inr z1);have oB:=HBy.out z1;have z2:¬(P j:Int)=0:=by omega
     have z3:(P j:Int)=(j:Int):=by omega
     clear HAy HAn HBy HBn;go_wp2;go_roundw
     case rel=>exact⟨q,by omega,by go_num,(HT.out.setA _).setB _⟩
     case measure=>simp[intOf]
    by_cases z2:P j=0
    ·have oA:=HAy.out (.inl z2);have EB:Hid (TB (q+1)=TB q):=HBn.out z1;have z3:¬(P j:Int)=(j:Int):=by omega
     have z4:(P j:Int)=0:=by omega
     clear HAy HAn HBy HBn;go_wp2;go_roundw
     case rel=>
      refine⟨q,by omega,by go_num,?_⟩;have:=HT.out.setA ((TA q:Nat):Int);rw[EB.out]at this;exact this
     case measure=>simp[intOf]
    have EA:Hid (TA (q+1)=TA q):=HAn.out (fun h=>h.elim z2 z1);have EB:Hid (TB (q+1)=TB q):=HBn.out z1;have z3:¬(P j:Int)=(j:Int):=by omega
    have z4:¬(P j:Int)=0:=by omega
    have z5:((P j:Int)==0)=false:=by simpa using z4
    have z6:((P j:Int)==(j:Int))=false:=by simpa using z3
    clear HAy HAn HBy HBn;go_wp2;go_roundw
    case rel=>
     refine⟨q,by omega,by go_num,?_⟩;have:=HT.out;rw[EA.out,EB.out]at this;exact this
    case measure=>simp[intOf]
theorem specCover_any(f:Int)(a:Option Addr)(cap:Nat)(vs:List Nat)(w:World)(hs:USrc w a (natV vs))(hn:vs.length<=16777216)(hv:All64 vs):
 Calls Tryz.prog 85 #[.slice a vs.length cap,.int .i64 f] w fun e w'=>e=.returned (conV (coverK vs f))∧Below w.heap.size w w':=by
 have Y:=BoxK.new w 94 (.int .i64 0) (.int .u64 0) (.int .u64 0);have B0:Below w.heap.size w (w.alloc (.cells #[.int .i64 0,.int .u64 0,.int .u64 0] 94)):=(Below.refl _ _).alloc (Nat.le_refl _) _;by_cases h0:vs.length=0
 ·have HK:Hid (coverK vs f=⟨0,0,0⟩):=coverK_none vs f (.inl h0);rw[HK.out,h0];clear HK h0 hs hv hn;obtain⟨yl,y0,y1,y2,g0,g1,g2⟩:=Y;go_enter Tryz.func85,Tryz.ntmps85;go_wp2;exact bodyPost_ret (v:=conV ⟨0,0,0⟩) (by simp[results,Tryz.results85,go_sem]) rfl ⟨rfl,B0⟩
 by_cases hf:0<=f∧f<=2
 ·have h0':0<vs.length:=by omega
  have hA:=covA_lt vs;have hB:=covB_lt hv;have hlh:=min_max vs vs.length;have hhi:=maxN_lt hv vs.length;have HMk:Hid (∀w1,Below w.heap.size w w1->Calls Tryz.prog 110 #[.slice a vs.length cap] w1 fun e w'=>e=.returned (conV ⟨1,covA vs,covB vs⟩)∧Below w1.heap.size w1 w'):=fun w1 hB=>l4mask_any a cap vs w1 (hs.below hB) h0' hn hv
  have HRg:Hid (∀w1,Below w.heap.size w w1->Calls Tryz.prog 111 #[.slice a vs.length cap] w1 fun e w'=>e=.returned (conV ⟨2,minN vs vs.length,maxN vs vs.length⟩)∧Below w1.heap.size w1 w'):=fun w1 hB=>l4range_any a cap vs w1 (hs.below hB) h0' hn hv
  have HMo:Hid (∀w1,Calls Tryz.prog 112 #[.int .u64 ((covA vs:Nat):Int)] w1 fun e w'=>e=.returned (.int .u64 ((moreK (covA vs):Nat):Int))∧w'=w1):=fun w1=>l4more_any _ w1 hA
  have HN1:Hid (∀w1,Calls Tryz.prog 113 #[.agg #[.int .i64 1,.int .u64 ((covA vs:Nat):Int),.int .u64 ((covB vs:Nat):Int)]] w1 fun e w'=>e=.returned (conV (newMask (covA vs) (covB vs)))∧Below w1.heap.size w1 w'):=fun w1=>l3norm_any ⟨1,covA vs,covB vs⟩ w1 ⟨⟨by simp,by simp⟩,hA,hB⟩ (by simp[validK,cov_valid])
  have HN2:Hid (∀w1,Calls Tryz.prog 113 #[.agg #[.int .i64 2,.int .u64 ((minN vs vs.length:Nat):Int),.int .u64 ((maxN vs vs.length:Nat):Int)]] w1 fun e w'=>e=.returned (conV (newRange (minN vs vs.length) (maxN vs vs.length)))∧Below w1.heap.size w1 w'):=fun w1=>l3norm_any ⟨2,minN vs vs.length,maxN vs vs.length⟩ w1 ⟨⟨by simp,by simp⟩,by simp only;omega,hhi⟩ (by simp[validK,hlh])
  have HK:Hid (coverK vs f=if f=1∨(f=0∧moreK (covA vs)<=maxN vs vs.length-minN vs vs.length)then newMask (covA vs) (covB vs)else newRange (minN vs vs.length) (maxN vs vs.length)):=by
   unfold Hid coverK;rw[if_neg];rintro(h|h)
   ·omega
   exact h hf
  have hmo:moreK (covA vs)<18446744073709551616:=by have:=low_le (popN_le (inv (covA vs)) 64);unfold moreK;omega
  clear hs hv;generalize hRe:coverK vs f=R at*;clear hRe;generalize moreK (covA vs)=m at*;generalize newMask (covA vs) (covB vs)=NM at*;generalize newRange (minN vs vs.length) (maxN vs vs.length)=NR at*;generalize covA vs=A at*;generalize covB vs=B at*;generalize minN vs vs.length=lo at*;generalize maxN vs vs.length=hi at*;generalize vs.length=n at*;have h0i:¬(n:Int)=0:=by omega
  have hf0:¬f<0:=by omega
  have hf2:¬2<f:=by omega
  simp only[conV]at HMk HRg;go_enter Tryz.func85,Tryz.ntmps85;go_wp2_with fail;refine(HMk.out _ B0).mono ?_;rintro e w1⟨rfl,hb1⟩;have B1:=(B0.trans (hb1.mono B0.size)).alloc (Nat.le_trans B0.size hb1.size) (.cells #[.int .i64 1,.int .u64 (A:Int),.int .u64 (B:Int)] 94);have Y1:=(Y.keep hb1).alloc (.cells #[.int .i64 1,.int .u64 (A:Int),.int .u64 (B:Int)] 94);have X1:=BoxK.new w1 94 (.int .i64 1) (.int .u64 (A:Int)) (.int .u64 (B:Int));clear Y B0 hb1 HMk;go_wp2_with fail;refine(HRg.out _ B1).mono ?_;rintro e w2⟨rfl,hb2⟩;have B2:=B1.trans (hb2.mono B1.size);have Y2:=Y1.keep hb2;have X2:=X1.keep hb2;clear Y1 X1 B1 hb2 HRg;have B3:=B2.alloc B2.size (.cells #[.int .i64 2,.int .u64 (lo:Int),.int .u64 (hi:Int)] 94);have Y3:=Y2.alloc (.cells #[.int .i64 2,.int .u64 (lo:Int),.int .u64 (hi:Int)] 94);have X3:=X2.alloc (.cells #[.int .i64 2,.int .u64 (lo:Int),.int .u64 (hi:Int)] 94);have Z3:=BoxK.new w2 94 (.int .i64 2) (.int .u64 (lo:Int)) (.int .u64 (hi:Int));clear B2 Y2 X2;go_wp2_with fail;have HX3:Hid _:=X3;have HZ3:Hid _:=Z3;obtain⟨_,p0,p1,p2,_,_,_⟩:=X3;obtain⟨_,r0,r1,r2,_,_,_⟩:=Z3;have X3:=HX3;have Z3:=HZ3;clear HX3 HZ3;generalize w2.alloc (.cells #[.int .i64 2,.int .u64 (lo:Int),.int .u64 (hi:Int)] 94)=W3 at*;by_cases f1:f=1
  ·subst f1;obtain rfl:R=NM:=by have:=HK.out;rw[if_pos (.inl rfl)]at this;exact this
   clear HK;go_wp2_with fail;go_quiet(fail);have Y4:=Y3.keep (below_drewN (Below.refl _ _) nq);have B4:=below_drewN B3 nq;obtain⟨xl,x0,x1,x2,_,_,_⟩:=X3.keep (below_drewN (Below.refl _ _) nq);obtain⟨zl,z0,z1,z2,_,_,_⟩:=Z3.keep (below_drewN (Below.refl _ _) nq);clear X3 Z3 Y3 B3;generalize W3.drewN nq=W4 at*;go_wp2_with fail;refine(HN1.out _).mono ?_;rintro e w5⟨rfl,hb5⟩;obtain⟨yl,y0,y1,y2,g0,g1,g2⟩:=Y4.keep hb5;have B5:=B4.trans (hb5.mono B4.size);clear x0 x1 x2 z0 z1 z2 Y4 B4 hb5 HN1 HN2 HMo;obtain⟨nk,na,nb⟩:=R;simp only[conV];go_wp2;exact bodyPost_ret (v:=conV ⟨nk,na,nb⟩) (by simp[results,Tryz.results85,go_sem,y0,y1,y2]) rfl ⟨rfl,below_set3 B5 (Nat.le_refl _) _ _ _⟩
  by_cases f2:f=2
  ·subst f2;obtain rfl:R=NR:=by have:=HK.out;rw[if_neg (by omega)]at this;exact this
   clear HK;go_wp2_with fail;go_quiet(fail);have Y4:=Y3.keep (below_drewN (Below.refl _ _) nq);have B4:=below_drewN B3 nq;obtain⟨xl,x0,x1,x2,_,_,_⟩:=X3.keep (below_drewN (Below.refl _ _) nq);obtain⟨zl,z0,z1,z2,_,_,_⟩:=Z3.keep (below_drewN (Below.refl _ _) nq);clear X3 Z3 Y3 B3;generalize W3.drewN nq=W4 at*;go_wp2_with fail;refine(HN2.out _).mono ?_;rintro e w5⟨rfl,hb5⟩;obtain⟨yl,y0,y1,y2,g0,g1,g2⟩:=Y4.keep hb5;have B5:=B4.trans (hb5.mono B4.size);clear x0 x1 x2 z0 z1 z2 Y4 B4 hb5 HN1 HN2 HMo;obtain⟨nk,na,nb⟩:=R;simp only[conV];go_wp2;exact bodyPost_ret (v:=conV ⟨nk,na,nb⟩) (by simp[results,Tryz.results85,go_sem,y0,y1,y2]) rfl ⟨rfl,below_set3 B5 (Nat.le_refl _) _ _ _⟩
  have f0:f=0:=by omega
  subst f0;by_cases q:m<=hi-lo
  ·obtain rfl:R=NM:=by have:=HK.out;rw[if_pos (.inr ⟨rfl,q⟩)]at this;exact this
   have q':(m:Int)<=(hi:Int)-(lo:Int):=by omega
   clear HK;go_wp2_with fail;go_quiet(first|(go_at_call 112;exact Calls.quiet_of_same (HMo.out _)));have Y4:=Y3.keep (below_drewN (Below.refl _ _) nq);have B4:=below_drewN B3 nq;obtain⟨xl,x0,x1,x2,_,_,_⟩:=X3.keep (below_drewN (Below.refl _ _) nq);obtain⟨zl,z0,z1,z2,_,_,_⟩:=Z3.keep (below_drewN (Below.refl _ _) nq);clear X3 Z3 Y3 B3;generalize W3.drewN nq=W4 at*;go_wp2_with fail;refine(HN1.out _).mono ?_;rintro e w5⟨rfl,hb5⟩;obtain⟨yl,y0,y1,y2,g0,g1,g2⟩:=Y4.keep hb5;have B5:=B4.trans (hb5.mono B4.size);clear x0 x1 x2 z0 z1 z2 Y4 B4 hb5 HN1 HN2 HMo;obtain⟨nk,na,nb⟩:=R;simp only[conV];go_wp2;exact bodyPost_ret (v:=conV ⟨nk,na,nb⟩) (by simp[results,Tryz.results85,go_sem,y0,y1,y2]) rfl ⟨rfl,below_set3 B5 (Nat.le_refl _) _ _ _⟩
  obtain rfl:R=NR:=by have:=HK.out;rw[if_neg (by omega)]at this;exact this
  have q':¬(m:Int)<=(hi:Int)-(lo:Int):=by omega
  clear HK;go_wp2_with fail;go_quiet(first|(go_at_call 112;exact Calls.quiet_of_same (HMo.out _)));have Y4:=Y3.keep (below_drewN (Below.refl _ _) nq);have B4:=below_drewN B3 nq;obtain⟨xl,x0,x1,x2,_,_,_⟩:=X3.keep (below_drewN (Below.refl _ _) nq);obtain⟨zl,z0,z1,z2,_,_,_⟩:=Z3.keep (below_drewN (Below.refl _ _) nq);clear X3 Z3 Y3 B3;generalize W3.drewN nq=W4 at*;go_wp2_with fail;refine(HN2.out _).mono ?_;rintro e w5⟨rfl,hb5⟩;obtain⟨yl,y0,y1,y2,g0,g1,g2⟩:=Y4.keep hb5;have B5:=B4.trans (hb5.mono B4.size);clear x0 x1 x2 z0 z1 z2 Y4 B4 hb5 HN1 HN2 HMo;obtain⟨nk,na,nb⟩:=R;simp only[conV];go_wp2;exact bodyPost_ret (v:=conV ⟨nk,na,nb⟩) (by simp[results,Tryz.results85,go_sem,y0,y1,y2]) rfl ⟨rfl,below_set3 B5 (Nat.le_refl _) _ _ _⟩
 have HK:Hid (coverK vs f=⟨0,0,0⟩):=coverK_none vs f (.inr hf);rw[HK.out];clear HK hs hv;generalize vs.length=n at*;have h0':¬(n:Int)=0:=by omega
 obtain⟨yl,y0,y1,y2,g0,g1,g2⟩:=Y;by_cases q:f<0
 ·go_enter Tryz.func85,Tryz.ntmps85;go_wp2;exact bodyPost_ret (v:=conV ⟨0,0,0⟩) (by simp[results,Tryz.results85,go_sem]) rfl ⟨rfl,B0⟩
 have q2:2<f:=by omega
 go_enter Tryz.func85,Tryz.ntmps85;go_wp2;exact bodyPost_ret (v:=conV ⟨0,0,0⟩) (by simp[results,Tryz.results85,go_sem]) rfl ⟨rfl,B0⟩
end Go.Proofs.YtddemlfepjkgoaaGreat
