import Derived.Test.YtddemlfepjkgoaaGreatQ14
set_option linter.all false
set_option maxRecDepth 200000
set_option maxHeartbeats 16000000
namespace Go.Proofs.YtddemlfepjkgoaaGreat
open Go.RowKit
theorem shl_one{n:Nat}(h:n<=64):IntKind.u64.wrap (IntKind.u64.wrap (2^n)-1)=((low n:Nat):Int):=by
 have h1:=low_succ n;have h2:=low_le h;have e:((2:Int)^n)=((2^n:Nat):Int):=by simp
 rw[IntKind.wrap_u64,IntKind.wrap_u64,e];omega
theorem isSmallerRange_any(l h m:Nat)(w:World)(hlh:l<=h)(hh:h<18446744073709551616)(hm:m<18446744073709551616):
 Calls Tryz.prog 50 #[.int .u64 (l:Int),.int .u64 (h:Int),.int .u64 (m:Int)] w fun e w'=>e=.returned (.bool (decide (h-l<moreK m)))∧w'=w:=by
 have HO:Hid (∀w,Calls Tryz.prog 87 #[.int .u64 ((inv m:Nat):Int)] w fun e w'=>e=.returned (.int .i64 ((popN (inv m) 64:Nat):Int))∧w'=w):=fun w=>onesCount_any _ w (inv_lt m)
 have HN:bits .xor .u64 IntKind.u64.max (m:Int)=((inv m:Nat):Int):=u64_not m hm;have hn:=popN_le (inv m) 64;have HS:Hid (IntKind.u64.wrap (IntKind.u64.wrap (2^popN (inv m) 64)-1)=((moreK m:Nat):Int)):=shl_one hn;have HL:Hid (moreK m<18446744073709551616):=by have:=low_le hn;unfold Hid moreK;omega
 have e1:((h:Int)-(l:Int))=((h-l:Nat):Int):=by omega
 have hd:h-l<18446744073709551616:=by omega
 generalize moreK m=M at*;generalize popN (inv m) 64=n at*;generalize inv m=I at*;go_enter Tryz.func50,Tryz.ntmps50;go_wp2_with fail;refine(HO.out _).mono ?_;rintro e w1⟨rfl,rfl⟩;go_wp2;rw[HS.out];go_ret;refine⟨?_,rfl⟩;congr 2;simp
theorem slicesMin_any(a:Option Addr)(cap:Nat)(vs:List Nat)(w:World)(hs:USrc w a (natV vs))(h0:0<vs.length)(hn:vs.length<=16777216)(hv:All64 vs):
 Calls Tryz.prog 48 #[.slice a vs.length cap] w fun e w'=>e=.returned (.int .u64 ((minN vs vs.length:Nat):Int))∧w'=w:=by
 obtain⟨b,o,rfl,hb,hc⟩:=hs.natAt h0;have HC:Hid (∀j,j<vs.length->w.cell? ⟨b,o+j,none⟩=some (.int .u64 ((vs.getD j 0:Nat):Int))):=hc;have c0:=hc 0 h0;have HV:Hid (All64 vs):=hv;have HM:Hid (∀n,minN vs (n+1)=if vs.getD n 0<minN vs n then vs.getD n 0 else minN vs n):=fun n=>rfl
 have H1:Hid (minN vs 1=vs.getD 0 0):=minN_1 vs;have HR:Hid (∀k,minN vs k<18446744073709551616):=minN_lt hv;clear hs hc hv;simp only[Nat.add_zero]at c0;generalize vs.length=n at*;generalize minN vs=M at*;generalize vs.getD 0 0=v0 at*;go_enter Tryz.func48,Tryz.ntmps48;go_wp2_with fail;go_loopw [3,4](fun m i wr=>∃j:Nat,1<=j∧j<=n∧i=.int .i64 j∧m=.int .u64 (M j:Nat)∧wr=w)(fun _ i _=>n-(intOf i).toNat)
 case atStart=>exact⟨1,by omega,by omega,rfl,by rw[H1.out],rfl⟩
 case round=>
  obtain⟨j,h1,h2,rfl,rfl,rfl⟩:=hrel;by_cases hlt:j<n
  ·have c1:=HC.out j hlt;have E:Hid (M (j+1)=if vs.getD j 0<M j then vs.getD j 0 else M j):=HM.out j;have r1:=HR.out j;have r2:=HV.out j;clear HC HM H1 HR HV c0;generalize vs.getD j 0=x at*;go_wp2;go_roundw
   case rel=>
    refine⟨j+1,by omega,by omega,by go_num,?_,trivial⟩;rw[E.out];congr 1;split<;>omega
   case measure=>simp[intOf];omega
  have e:j=n:=by omega
  subst e;clear HC HM H1 HR HV;go_wp2;go_ret;exact⟨rfl,rfl⟩
theorem slicesMax_any(a:Option Addr)(cap:Nat)(vs:List Nat)(w:World)(hs:USrc w a (natV vs))(h0:0<vs.length)(hn:vs.length<=16777216)(hv:All64 vs):
 Calls Tryz.prog 49 #[.slice a vs.length cap] w fun e w'=>e=.returned (.int .u64 ((maxN vs vs.length:Nat):Int))∧w'=w:=by
 obtain⟨b,o,rfl,hb,hc⟩:=hs.natAt h0;have HC:Hid (∀j,j<vs.length->w.cell? ⟨b,o+j,none⟩=some (.int .u64 ((vs.getD j 0:Nat):Int))):=hc;have c0:=hc 0 h0;have HV:Hid (All64 vs):=hv;have HM:Hid (∀n,maxN vs (n+1)=if maxN vs n<vs.getD n 0 then vs.getD n 0 else maxN vs n):=fun n=>rfl
 have H1:Hid (maxN vs 1=vs.getD 0 0):=maxN_1 vs;have HR:Hid (∀k,maxN vs k<18446744073709551616):=maxN_lt hv;clear hs hc hv;simp only[Nat.add_zero]at c0;generalize vs.length=n at*;generalize maxN vs=M at*;generalize vs.getD 0 0=v0 at*;go_enter Tryz.func49,Tryz.ntmps49;go_wp2_with fail;go_loopw [3,4](fun m i wr=>∃j:Nat,1<=j∧j<=n∧i=.int .i64 j∧m=.int .u64 (M j:Nat)∧wr=w)(fun _ i _=>n-(intOf i).toNat)
 case atStart=>exact⟨1,by omega,by omega,rfl,by rw[H1.out],rfl⟩
 case round=>
  obtain⟨j,h1,h2,rfl,rfl,rfl⟩:=hrel;by_cases hlt:j<n
  ·have c1:=HC.out j hlt;have E:Hid (M (j+1)=if M j<vs.getD j 0 then vs.getD j 0 else M j):=HM.out j;have r1:=HR.out j;have r2:=HV.out j;clear HC HM H1 HR HV c0;generalize vs.getD j 0=x at*;go_wp2;go_roundw
   case rel=>
    refine⟨j+1,by omega,by omega,by go_num,?_,trivial⟩;rw[E.out];congr 1;split<;>omega
   case measure=>simp[intOf];omega
  have e:j=n:=by omega
  subst e;clear HC HM H1 HR HV;go_wp2;go_ret;exact⟨rfl,rfl⟩
theorem agreedBits_any(a:Option Addr)(cap:Nat)(vs:List Nat)(w:World)(hs:USrc w a (natV vs))(h0:0<vs.length)(hn:vs.length<=16777216)(hv:All64 vs):
 Calls Tryz.prog 47 #[.slice a vs.length cap] w fun e w'=>e=.returned (two (covA vs) (covB vs))∧Below w.heap.size w w':=by
 obtain⟨b,o,rfl,hb,hc⟩:=hs.natAt h0;have HC:Hid (∀j,j<vs.length->w.cell? ⟨b,o+j,none⟩=some (.int .u64 ((vs.getD j 0:Nat):Int))):=hc;have c0:=hc 0 h0;have HV:Hid (All64 vs):=hv;have HM:Hid (∀n,difN vs (n+1)=difN vs n|||(vs.getD n 0^^^vs.getD 0 0)):=fun n=>rfl
 have H1:Hid (difN vs 0=0):=rfl;have HR:Hid (∀k,difN vs k<18446744073709551616):=difN_lt hv;have HX:Hid (∀j,bits .xor .u64 ((vs.getD j 0:Nat):Int) ((vs.getD 0 0:Nat):Int)=((vs.getD j 0^^^vs.getD 0 0:Nat):Int)∧vs.getD j 0^^^vs.getD 0 0<18446744073709551616):=fun j=>⟨u64_xor _ _ (hv j) (hv 0),xor_lt (hv j) (hv 0)⟩
 have HA:Hid (covA vs=inv (difN vs vs.length)):=rfl;have HB:Hid (covB vs=vs.getD 0 0&&&inv (difN vs vs.length)):=rfl;have v0l:=hv 0;clear hs hc hv;simp only[Nat.add_zero]at c0;generalize covA vs=cA at*;generalize covB vs=cB at*;generalize vs.length=n at*;generalize difN vs=M at*;generalize vs.getD 0 0=v0 at*;go_enter Tryz.func47,Tryz.ntmps47;go_wp2_with fail;go_loopw [4,9](fun m i wr=>∃j:Nat,j<=n∧i=.int .i64 j∧m=.int .u64 (M j:Nat)∧wr=w)(fun _ i _=>n-(intOf i).toNat)
 case atStart=>exact⟨0,by omega,rfl,by rw[H1.out];rfl,rfl⟩
 case round=>
  obtain⟨j,h2,rfl,rfl,rfl⟩:=hrel;by_cases hlt:j<n
  ·have c1:=HC.out j hlt;have E:Hid (M (j+1)=M j|||(vs.getD j 0^^^v0)):=HM.out j;have r1:=HR.out j;have r2:=HV.out j;obtain⟨x1,x2⟩:=HX.out j;have O:bits .or .u64 ((M j:Nat):Int) ((vs.getD j 0^^^v0:Nat):Int)=((M j|||(vs.getD j 0^^^v0):Nat):Int):=u64_or _ _ r1 x2;rw[<-E.out]at O;clear HC HM H1 HR HV HX HA HB E;generalize vs.getD j 0^^^v0=y at*;generalize vs.getD j 0=x at*;go_wp2;go_roundw
   case rel=>exact⟨j+1,by omega,by go_num,rfl,trivial⟩
   case measure=>simp[intOf];omega
  have e:j=n:=by omega
  subst e;have r1:=HR.out j;have N:Hid (bits .xor .u64 IntKind.u64.max ((M j:Nat):Int)=((inv (M j):Nat):Int)):=u64_not _ r1;have A:Hid (bits .andNot .u64 (v0:Int) ((M j:Nat):Int)=((v0&&&inv (M j):Nat):Int)):=u64_andNot _ _ v0l r1;clear HC HM H1 HR HV HX;rw[<-HA.out]at N;rw[<-HB.out]at A;clear HA HB;generalize M j=d at*;go_wp2_with fail;go_quiet(fail);go_wp2;rw[N.out,A.out];go_ret2;exact⟨rfl,by first|exact(Below.refl _ _).drew|exact below_drewN (Below.refl _ _) _⟩
theorem coverBy_any(f:Int)(w:World):
 Calls Tryz.prog 24 #[.int .i64 f] w fun e w'=>e=.returned (.func (.func 46) #[] #[.pointer (some ⟨w.heap.size,0,none⟩)])∧w'=w.alloc (.cells #[.int .i64 f] 3):=by
 go_enter Tryz.func24,Tryz.ntmps24;go_wp2;go_ret;exact⟨rfl,rfl⟩
theorem cell_ltK'{w:World}{a:Addr}{v:Value}(h:w.cell? a=some v):a.block<w.heap.size:=by
 rcases Nat.lt_or_ge a.block w.heap.size with h'|h'
 ·exact h'
 simp[World.cell?,Array.getElem?_eq_none h']at h
theorem coverFn_any(f:Int)(g:Nat)(a:Option Addr)(cap:Nat)(vs:List Nat)(w:World)(hg:w.cell? ⟨g,0,none⟩=some (.int .i64 f))(hf:0<=f∧f<=2)(hs:USrc w a (natV vs))(h0:0<vs.length)(hn:vs.length<=16777216)(hv:All64 vs):
 Calls Tryz.prog 46 #[.slice a vs.length cap,.pointer (some ⟨g,0,none⟩)] w fun e w'=>e=.returned (conV (coverK vs f))∧Below w.heap.size w w':=by
 have hgl:g<w.heap.size:=cell_ltK' hg;have HAg:Hid (∀w1,Below w.heap.size w w1->Calls Tryz.prog 47 #[.slice a vs.length cap] w1 fun e w'=>e=.returned (two (covA vs) (covB vs))∧Below w1.heap.size w1 w'):=fun w1 hB=>agreedBits_any a cap vs w1 (hs.below hB) h0 hn hv
 have HMin:Hid (∀w1,Below w.heap.size w w1->Calls Tryz.prog 48 #[.slice a vs.length cap] w1 fun e w'=>e=.returned (.int .u64 ((minN vs vs.length:Nat):Int))∧w'=w1):=fun w1 hB=>slicesMin_any a cap vs w1 (hs.below hB) h0 hn hv
 have HMax:Hid (∀w1,Below w.heap.size w w1->Calls Tryz.prog 49 #[.slice a vs.length cap] w1 fun e w'=>e=.returned (.int .u64 ((maxN vs vs.length:Nat):Int))∧w'=w1):=fun w1 hB=>slicesMax_any a cap vs w1 (hs.below hB) h0 hn hv
 have hlh:=min_max vs vs.length;have hhi:=maxN_lt hv vs.length;have hA:=covA_lt vs;have hB:=covB_lt hv;have HS:Hid (∀w1,Calls Tryz.prog 50 #[.int .u64 ((minN vs vs.length:Nat):Int),.int .u64 ((maxN vs vs.length:Nat):Int),.int .u64 ((covA vs:Nat):Int)] w1 fun e w'=>e=.returned (.bool (decide (maxN vs vs.length-minN vs vs.length<moreK (covA vs))))∧w'=w1):=fun w1=>isSmallerRange_any _ _ _ w1 hlh hhi hA
 have HNm:Hid (∀w1,Calls Tryz.prog 52 #[.int .u64 ((covA vs:Nat):Int),.int .u64 ((covB vs:Nat):Int)] w1 fun e w'=>e=.returned (setV (newMask (covA vs) (covB vs)))∧w'=w1):=fun w1=>newMask_any _ _ w1 hA hB
 have HNr:Hid (∀w1,Calls Tryz.prog 51 #[.int .u64 ((minN vs vs.length:Nat):Int),.int .u64 ((maxN vs vs.length:Nat):Int)] w1 fun e w'=>e=.returned (setV (newRange (minN vs vs.length) (maxN vs vs.length)))∧w'=w1):=fun w1=>newRange_any _ _ w1 (by omega) hhi
 have HM:Hid (Meth (coverK vs f) "loop.example/s0039/impl.con" #[] (conV (coverK vs f))):=meth_con (coverK_normal hv f);have HK:Hid (coverK vs f=if f=1∨(f=0∧moreK (covA vs)<=maxN vs vs.length-minN vs vs.length)then newMask (covA vs) (covB vs)else newRange (minN vs vs.length) (maxN vs vs.length)):=by
  unfold Hid coverK;rw[if_neg];rintro(h|h)
  ·omega
  exact h hf
 have Y:=BoxK.new w 94 (.int .i64 0) (.int .u64 0) (.int .u64 0);have B0:Below w.heap.size w (w.alloc (.cells #[.int .i64 0,.int .u64 0,.int .u64 0] 94)):=(Below.refl _ _).alloc (Nat.le_refl _) _;clear hs hv hlh hhi hA hB;generalize hRe:coverK vs f=R at*;clear hRe;obtain⟨s,hse⟩:∃s,decide (maxN vs vs.length-minN vs vs.length<moreK (covA vs))=s:=⟨_,rfl⟩;have HSe:Hid (decide (maxN vs vs.length-minN vs vs.length<moreK (covA vs))=s):=hse;rw[hse]at HS;clear hse;generalize moreK (covA vs)=m at*;generalize newMask (covA vs) (covB vs)=NM at*;generalize newRange (minN vs vs.length) (maxN vs vs.length)=NR at*;generalize covA vs=A at*;generalize covB vs=B at*;generalize minN vs vs.length=lo at*;generalize maxN vs vs.length=hi at*;generalize vs.length=n at*;by_cases f2:f=2
 ·subst f2;obtain rfl:R=NR:=by have:=HK.out;rw[if_neg (by omega)]at this;exact this
  clear HK HSe HS HNm;go_enter Tryz.func46,Tryz.ntmps46;go_wp2_with fail;refine(HAg.out _ B0).mono ?_;rintro e w1⟨rfl,hb1⟩;have Y1:=Y.keep hb1;have B1:=B0.trans (hb1.mono B0.size);have hg1:w1.cell? ⟨g,0,none⟩=some (.int .i64 2):=(B1.cell hgl).trans hg;clear Y hb1 B0 HAg;go_wp2_with fail;refine(HMin.out _ B1).mono ?_;rintro e w2⟨rfl,rfl⟩;go_wp2_with fail;refine(HMax.out _ B1).mono ?_;rintro e w3⟨rfl,rfl⟩;clear HMin HMax;go_wp2_with fail;refine(HNr.out _).mono ?_;rintro e w4⟨rfl,rfl⟩;obtain⟨T,P,F,e1,e2,e4,e3⟩:=HM.out;have HF:Hid (∀w,Calls Tryz.prog F #[P] w fun e w'=>e=.returned (conV R)∧Below w.heap.size w w'):=e3;rw[e1];clear HM e3 e1;go_wp2_with fail;refine(HF.out _).mono ?_;rintro e w3⟨rfl,hb3⟩;obtain⟨yl,y0,y1,y2,g0,g1,g2⟩:=Y1.keep hb3;have B3:=B1.trans (hb3.mono B1.size);obtain⟨nk,na,nb⟩:=R;simp only[conV];go_wp2;exact bodyPost_ret (v:=conV ⟨nk,na,nb⟩) (by simp[results,Tryz.results46,go_sem,y0,y1,y2]) rfl ⟨rfl,below_set3 B3 (Nat.le_refl _) _ _ _⟩
 by_cases f1:f=1
 ·subst f1;obtain rfl:R=NM:=by have:=HK.out;rw[if_pos (.inl rfl)]at this;exact this
  clear HK HSe HS HNr;go_enter Tryz.func46,Tryz.ntmps46;go_wp2_with fail;refine(HAg.out _ B0).mono ?_;rintro e w1⟨rfl,hb1⟩;have Y1:=Y.keep hb1;have B1:=B0.trans (hb1.mono B0.size);have hg1:w1.cell? ⟨g,0,none⟩=some (.int .i64 1):=(B1.cell hgl).trans hg;clear Y hb1 B0 HAg;go_wp2_with fail;refine(HMin.out _ B1).mono ?_;rintro e w2⟨rfl,rfl⟩;go_wp2_with fail;refine(HMax.out _ B1).mono ?_;rintro e w3⟨rfl,rfl⟩;clear HMin HMax;go_wp2_with fail;refine(HNm.out _).mono ?_;rintro e w4⟨rfl,rfl⟩;obtain⟨T,P,F,e1,e2,e4,e3⟩:=HM.out;have HF:Hid (∀w,Calls Tryz.prog F #[P] w fun e w'=>e=.returned (conV R)∧Below w.heap.size w w'):=e3;rw[e1];clear HM e3 e1;go_wp2_with fail;refine(HF.out _).mono ?_;rintro e w3⟨rfl,hb3⟩;obtain⟨yl,y0,y1,y2,g0,g1,g2⟩:=Y1.keep hb3;have B3:=B1.trans (hb3.mono B1.size);obtain⟨nk,na,nb⟩:=R;simp only[conV];go_wp2;exact bodyPost_ret (v:=conV ⟨nk,na,nb⟩) (by simp[results,Tryz.results46,go_sem,y0,y1,y2]) rfl ⟨rfl,below_set3 B3 (Nat.le_refl _) _ _ _⟩
 have f0:f=0:=by omega
 subst f0
 cases s with
 |true=>
  obtain rfl:R=NR:=by have:=HK.out;rw[if_neg (by have:=of_decide_eq_true HSe.out;omega)]at this;exact this
  clear HK HSe HNm;go_enter Tryz.func46,Tryz.ntmps46;go_wp2_with fail;refine(HAg.out _ B0).mono ?_;rintro e w1⟨rfl,hb1⟩;have Y1:=Y.keep hb1;have B1:=B0.trans (hb1.mono B0.size);have hg1:w1.cell? ⟨g,0,none⟩=some (.int .i64 0):=(B1.cell hgl).trans hg;clear Y hb1 B0 HAg;go_wp2_with fail;refine(HMin.out _ B1).mono ?_;rintro e w2⟨rfl,rfl⟩;go_wp2_with fail;refine(HMax.out _ B1).mono ?_;rintro e w3⟨rfl,rfl⟩;clear HMin HMax;go_wp2_with fail;refine(HS.out _).mono ?_;rintro e w5⟨rfl,rfl⟩;clear HS;go_wp2_with fail;refine(HNr.out _).mono ?_;rintro e w4⟨rfl,rfl⟩;obtain⟨T,P,F,e1,e2,e4,e3⟩:=HM.out;have HF:Hid (∀w,Calls Tryz.prog F #[P] w fun e w'=>e=.returned (conV R)∧Below w.heap.size w w'):=e3;rw[e1];clear HM e3 e1;go_wp2_with fail;refine(HF.out _).mono ?_;rintro e w3⟨rfl,hb3⟩;obtain⟨yl,y0,y1,y2,g0,g1,g2⟩:=Y1.keep hb3;have B3:=B1.trans (hb3.mono B1.size);obtain⟨nk,na,nb⟩:=R;simp only[conV];go_wp2;exact bodyPost_ret (v:=conV ⟨nk,na,nb⟩) (by simp[results,Tryz.results46,go_sem,y0,y1,y2]) rfl ⟨rfl,below_set3 B3 (Nat.le_refl _) _ _ _⟩
 |false=>
  obtain rfl:R=NM:=by have:=HK.out;rw[if_pos (by have:=of_decide_eq_false HSe.out;omega)]at this;exact this
  clear HK HSe HNr;go_enter Tryz.func46,Tryz.ntmps46;go_wp2_with fail;refine(HAg.out _ B0).mono ?_;rintro e w1⟨rfl,hb1⟩;have Y1:=Y.keep hb1;have B1:=B0.trans (hb1.mono B0.size);have hg1:w1.cell? ⟨g,0,none⟩=some (.int .i64 0):=(B1.cell hgl).trans hg;clear Y hb1 B0 HAg;go_wp2_with fail;refine(HMin.out _ B1).mono ?_;rintro e w2⟨rfl,rfl⟩;go_wp2_with fail;refine(HMax.out _ B1).mono ?_;rintro e w3⟨rfl,rfl⟩;clear HMin HMax;go_wp2_with fail;refine(HS.out _).mono ?_;rintro e w5⟨rfl,rfl⟩;clear HS;go_wp2_with fail;refine(HNm.out _).mono ?_;rintro e w4⟨rfl,rfl⟩;obtain⟨T,P,F,e1,e2,e4,e3⟩:=HM.out;have HF:Hid (∀w,Calls Tryz.prog F #[P] w fun e w'=>e=.returned (conV R)∧Below w.heap.size w w'):=e3;rw[e1];clear HM e3 e1;go_wp2_with fail;refine(HF.out _).mono ?_;rintro e w3⟨rfl,hb3⟩;obtain⟨yl,y0,y1,y2,g0,g1,g2⟩:=Y1.keep hb3;have B3:=B1.trans (hb3.mono B1.size);obtain⟨nk,na,nb⟩:=R;simp only[conV];go_wp2;exact bodyPost_ret (v:=conV ⟨nk,na,nb⟩) (by simp[results,Tryz.results46,go_sem,y0,y1,y2]) rfl ⟨rfl,below_set3 B3 (Nat.le_refl _) _ _ _⟩
theorem coverK_none(vs:List Nat)(f:Int)(h:vs.length=0∨¬(0<=f∧f<=2)):coverK vs f=⟨0,0,0⟩:=by unfold coverK;rw[if_pos h]
theorem shl_bit{k:Nat}(h:k<64):IntKind.u64.wrap (2^k)=((2^k:Nat):Int):=by
 have h1:2^k<18446744073709551616:=Nat.pow_lt_pow_right (a:=2) (by omega) h;have e:((2:Int)^k)=((2^k:Nat):Int):=by simp
 rw[IntKind.wrap_u64,e];generalize 2^k=p at*;omega
theorem l4more_any(a:Nat)(w:World)(ha:a<18446744073709551616):
 Calls Tryz.prog 112 #[.int .u64 (a:Int)] w fun e w'=>e=.returned (.int .u64 ((moreK a:Nat):Int))∧w'=w:=by
 have H0:Hid (low (popN (inv a) 0)=0):=rfl;have HE:Hid (low (popN (inv a) 64)=moreK a):=rfl;have HY:Hid (∀k,k<64->a.testBit k=true->low (popN (inv a) (k+1))=low (popN (inv a) k)):=by
  intro k hk h;have e:(inv a).testBit k=false:=by rw[bit_inv ha,h];simp
  have e2:popN (inv a) (k+1)=popN (inv a) k:=by rw[popN,if_neg (by rw[e];decide),Nat.add_zero]
  rw[e2]
 have HNo:Hid (∀k,k<64->a.testBit k=false->low (popN (inv a) (k+1))=low (popN (inv a) k)*2+1):=by
  intro k hk h;have e:(inv a).testBit k=true:=by rw[bit_inv ha,h];simp[hk]
  have e2:popN (inv a) (k+1)=popN (inv a) k+1:=by rw[popN,if_pos e]
  rw[e2,low_next]
 have HL:Hid (∀k,k<=64->low (popN (inv a) k)<18446744073709551616):=by
  intro k hk;have:=low_le (Nat.le_trans (popN_le (inv a) k) hk);omega
 generalize moreK a=R at*;obtain⟨M,hM⟩:∃M:Nat->Nat,M=fun k=>low (popN (inv a) k):=⟨_,rfl⟩
 have H0':Hid (M 0=0):=by rw[hM];exact H0
 have HE':Hid (M 64=R):=by rw[hM];exact HE
 have HY':Hid (∀k,k<64->a.testBit k=true->M (k+1)=M k):=by rw[hM];exact HY
 have HN':Hid (∀k,k<64->a.testBit k=false->M (k+1)=M k*2+1):=by rw[hM];exact HNo
 have HL':Hid (∀k,k<=64->M k<18446744073709551616):=by rw[hM];exact HL
 clear hM H0 HE HY HNo HL;have HB:Hid (∀k,k<64->∃p:Nat,p<18446744073709551616∧IntKind.u64.wrap (2^k)=(p:Int)∧(bits .and .u64 (a:Int) (p:Int)=0↔a.testBit k=false)):=by
  intro k hk;have h1:2^k<18446744073709551616:=Nat.pow_lt_pow_right (a:=2) (by omega) hk;refine⟨2^k,h1,shl_bit hk,?_⟩;rw[u64_and a _ ha h1,<-and_bit];omega
 go_enter Tryz.func112,Tryz.ntmps112;go_wp2_with fail;go_loopw [3,4](fun v i wr=>∃k:Nat,k<=64∧i=.int .i64 k∧v=.int .u64 (M k:Nat)∧wr=w)(fun _ i _=>64-(intOf i).toNat)
 case atStart=>exact⟨0,by omega,rfl,by rw[H0'.out];rfl,rfl⟩
 case round=>
  obtain⟨k,hk,rfl,rfl,rfl⟩:=hrel;by_cases hlt:k<64
  ·obtain⟨p,hp,e1,e2⟩:=HB.out k hlt
   cases ht:a.testBit k with
   |true=>
    have E:Hid (M (k+1)=M k):=HY'.out k hlt ht;have e3:¬bits .and .u64 (a:Int) (p:Int)=0:=fun h=>by rw[e2.1 h]at ht;exact absurd ht (by decide)
    clear H0' HE' HY' HN' HL' HB e2 ht;go_wp2;go_roundw
    case rel=>exact⟨k+1,by omega,by go_num,by rw[E.out],trivial⟩
    case measure=>simp[intOf];omega
   |false=>
    have E:Hid (M (k+1)=M k*2+1):=HN'.out k hlt ht;have e3:bits .and .u64 (a:Int) (p:Int)=0:=e2.2 ht;have hl:M k*2+1<18446744073709551616:=by have:=HL'.out (k+1) (by omega);rw[E.out]at this;exact this
    clear H0' HE' HY' HN' HL' HB e2 ht;go_wp2;go_roundw
    case rel=>
     refine⟨k+1,by omega,by go_num,?_,trivial⟩;rw[E.out];congr 1
    case measure=>simp[intOf];omega
  have e:k=64:=by omega
  subst e;have E:=HE'.out;clear H0' HE' HY' HN' HL' HB;subst E;go_wp2;go_ret;exact⟨rfl,rfl⟩
theorem BoxK.set1{w:World}{g:Nat}{x y z:Value}(h:BoxK w g x y z)(y':Value):BoxK (w.setCell ⟨g,1,none⟩ y') g x y' z:=by
 obtain⟨l,c0,c1,c2,f0,f1,f2⟩:=h;refine⟨by simp[l],?_,?_,?_,by simp[f0],by simp[f1],by simp[f2]⟩
 ·simp[go_sem,c0]
 ·simp[go_sem,c1]
 simp[go_sem,c2]
theorem BoxK.set2{w:World}{g:Nat}{x y z:Value}(h:BoxK w g x y z)(z':Value):BoxK (w.setCell ⟨g,2,none⟩ z') g x y z':=by
 obtain⟨l,c0,c1,c2,f0,f1,f2⟩:=h;refine⟨by simp[l],?_,?_,?_,by simp[f0],by simp[f1],by simp[f2]⟩
 ·simp[go_sem,c0]
 ·simp[go_sem,c1]
 simp[go_sem,c2]
theorem BoxK.apart{w:World}{g:Nat}{x y z:Value}(h:BoxK w g x y z){p:Addr}(hne:g≠p.block)(v:Value):BoxK (w.setCell p v) g x y z:=by
 have e:(w.setCell p v).heap[g]? =w.heap[g]? :=Below.heap_setCell w p v g hne;exact⟨by have:=h.lt;simpa[World.setCell]using this,(World.cell?_of_block (a:=⟨g,0,none⟩) e).trans h.c0,(World.cell?_of_block (a:=⟨g,1,none⟩) e).trans h.c1,(World.cell?_of_block (a:=⟨g,2,none⟩) e).trans h.c2,
  (World.frozen?_of_block (a:=⟨g,0,none⟩) e).trans h.f0,(World.frozen?_of_block (a:=⟨g,1,none⟩) e).trans h.f1,(World.frozen?_of_block (a:=⟨g,2,none⟩) e).trans h.f2⟩
def Two(w wr:World)(k x y:Int):Prop:=BoxK wr w.heap.size (.int .i64 0) (.int .u64 0) (.int .u64 0)∧BoxK wr (w.heap.size+1) (.int .i64 k) (.int .u64 x) (.int .u64 y)∧Below w.heap.size w wr
theorem Two.drew{w wr:World}{k x y:Int}(h:Two w wr k x y):Two w wr.drew k x y:=⟨h.1.drew,h.2.1.drew,h.2.2.drew⟩
theorem Two.drewN{w wr:World}{k x y:Int}(h:Two w wr k x y)(n:Nat):Two w (wr.drewN n) k x y:=⟨h.1.keep (below_drewN (Below.refl _ _) _),h.2.1.keep (below_drewN (Below.refl _ _) _),below_drewN h.2.2 _⟩
theorem Two.setA{w wr:World}{k x y:Int}(h:Two w wr k x y)(x':Int):Two w (wr.setCell ⟨w.heap.size+1,1,none⟩ (.int .u64 x')) k x' y:=⟨h.1.apart (by simp) _,h.2.1.set1 _,h.2.2.setCell (by simp) _⟩
theorem Two.setB{w wr:World}{k x y:Int}(h:Two w wr k x y)(y':Int):Two w (wr.setCell ⟨w.heap.size+1,2,none⟩ (.int .u64 y')) k x y':=⟨h.1.apart (by simp) _,h.2.1.set2 _,h.2.2.setCell (by simp) _⟩
theorem Two.start{w w1:World}{t:TypeId}{k x y:Int}(h:w1=(w.alloc (.cells #[.int .i64 0,.int .u64 0,.int .u64 0] t)).alloc (.cells #[.int .i64 k,.int .u64 x,.int .u64 y] t)):Two w w1 k x y:=by
 subst h;have Y:=BoxK.new (w.alloc (.cells #[.int .i64 0,.int .u64 0,.int .u64 0] t)) t (.int .i64 k) (.int .u64 x) (.int .u64 y);rw[show(w.alloc (.cells #[.int .i64 0,.int .u64 0,.int .u64 0] t)).heap.size=w.heap.size+1 by simp]at Y;exact⟨(BoxK.new w t _ _ _).alloc _,Y,((Below.refl _ _).alloc (Nat.le_refl _) _).alloc (by simp) _⟩
theorem l4range_any(a:Option Addr)(cap:Nat)(vs:List Nat)(w:World)(hs:USrc w a (natV vs))(h0:0<vs.length)(hn:vs.length<=16777216)(hv:All64 vs):
 Calls Tryz.prog 111 #[.slice a vs.length cap] w fun e w'=>e=.returned (conV ⟨2,minN vs vs.length,maxN vs vs.length⟩)∧Below w.heap.size w w':=by
 obtain⟨b,o,rfl,hb,hc⟩:=hs.natAt h0;have HC:Hid (∀wr,Below w.heap.size w wr->∀j,j<vs.length->wr.cell? ⟨b,o+j,none⟩=some (.int .u64 ((vs.getD j 0:Nat):Int))):=fun wr hB j hj=>(hB.cell (p:=⟨b,o+j,none⟩) hb).trans (hc j hj)
 have c0:(w.alloc (.cells #[.int .i64 0,.int .u64 0,.int .u64 0] 94)).cell? ⟨b,o,none⟩=some (.int .u64 ((vs.getD 0 0:Nat):Int)):=HC.out _ ((Below.refl _ _).alloc (Nat.le_refl _) _) 0 h0;have HV:Hid (All64 vs):=hv;have HM:Hid (∀n,minN vs (n+1)=if vs.getD n 0<minN vs n then vs.getD n 0 else minN vs n):=fun n=>rfl
 have HX:Hid (∀n,maxN vs (n+1)=if maxN vs n<vs.getD n 0 then vs.getD n 0 else maxN vs n):=fun n=>rfl
 have H1:Hid (minN vs 0=vs.getD 0 0):=rfl;have H2:Hid (maxN vs 0=vs.getD 0 0):=rfl;clear hs hc hv;generalize vs.length=n at*;generalize minN vs=M at*;generalize maxN vs=X at*;generalize vs.getD 0 0=v0 at*;go_enter Tryz.func111,Tryz.ntmps111;go_wp2_with fail;go_region_with(fail);all_goals
  go_wp2_with fail;have T:Two w ((w.alloc (.cells #[.int .i64 0,.int .u64 0,.int .u64 0] 94)).alloc (.cells #[.int .i64 2,.int .u64 (v0:Int),.int .u64 (v0:Int)] 94)).drew 2 v0 v0:=(Two.start rfl).drew;generalize((w.alloc (.cells #[.int .i64 0,.int .u64 0,.int .u64 0] 94)).alloc (.cells #[.int .i64 2,.int .u64 (v0:Int),.int .u64 (v0:Int)] 94)).drew=W at*;clear c0;go_loopw [4](fun i wr=>∃j:Nat,j<=n∧i=.int .i64 j∧Two w wr 2 (M j:Nat) (X j:Nat))(fun i _=>n-(intOf i).toNat)
  case atStart=>exact⟨0,by omega,rfl,by rw[H1.out,H2.out];exact T⟩
  case round=>
   obtain⟨j,hj,rfl,Tr⟩:=hrel;clear T;have HT:Hid (Two w wr 2 (M j:Nat) (X j:Nat)):=Tr;obtain⟨R,Y,B⟩:=Tr;by_cases hlt:j<n
   ·have c1:=HC.out wr B j hlt;have E1:Hid (M (j+1)=if vs.getD j 0<M j then vs.getD j 0 else M j):=HM.out j;have E2:Hid (X (j+1)=if X j<vs.getD j 0 then vs.getD j 0 else X j):=HX.out j;have r2:=HV.out j;have hbn:b≠w.heap.size+1:=by omega
    clear HC HM HX H1 H2 HV;generalize vs.getD j 0=x at*;obtain⟨_,y0,y1,y2,g0,g1,g2⟩:=Y;clear R B;by_cases q1:x<M j
    ·have q1':(x:Int)<(M j:Int):=by omega
     by_cases q2:X j<x
     ·have q2':(X j:Int)<(x:Int):=by omega
      go_wp2_with fail;go_quiet(fail);go_wp2_with fail;go_quiet(fail);go_wp2;go_roundw
      case rel=>
       refine⟨j+1,by omega,by go_num,?_⟩;rw[E1.out,E2.out,if_pos q1,if_pos q2];exact(((HT.out.drewN _).setA _).drewN _).setB _
      case measure=>simp[intOf];omega
     have q2':¬(X j:Int)<(x:Int):=by omega
     go_wp2_with fail;go_quiet(fail);go_wp2_with fail;go_quiet(fail);go_wp2;go_roundw
     case rel=>
      refine⟨j+1,by omega,by go_num,?_⟩;rw[E1.out,E2.out,if_pos q1,if_neg q2];exact((HT.out.drewN _).setA _).drewN _
     case measure=>simp[intOf];omega
    have q1':¬(x:Int)<(M j:Int):=by omega
    by_cases q2:X j<x
    ·have q2':(X j:Int)<(x:Int):=by omega
     go_wp2_with fail;go_quiet(fail);go_wp2_with fail;go_quiet(fail);go_wp2;go_roundw
     case rel=>
      refine⟨j+1,by omega,by go_num,?_⟩;rw[E1.out,E2.out,if_neg q1,if_pos q2];first|exact((HT.out.drewN _).drewN _).setB _|exact(HT.out.drewN _).setB _
     case measure=>simp[intOf];omega
    have q2':¬(X j:Int)<(x:Int):=by omega
    go_wp2_with fail;go_quiet(fail);go_wp2_with fail;go_quiet(fail);go_wp2;go_roundw
    case rel=>
     refine⟨j+1,by omega,by go_num,?_⟩;rw[E1.out,E2.out,if_neg q1,if_neg q2];first|exact(HT.out.drewN _).drewN _|exact HT.out.drewN _
    case measure=>simp[intOf];omega
   have e:j=n:=by omega
   subst e;clear HC HM HX H1 H2 HV HT;obtain⟨_,x0,x1,x2,f0,f1,f2⟩:=R;obtain⟨_,y0,y1,y2,g0,g1,g2⟩:=Y;go_wp2;exact bodyPost_ret (v:=conV ⟨2,M j,X j⟩) (by simp[results,Tryz.results111,go_sem,x0,x1,x2]) rfl ⟨rfl,below_set3 B (Nat.le_refl _) _ _ _⟩
end Go.Proofs.YtddemlfepjkgoaaGreat
