import Derived.Test.YtdihdapmphkhpaaGreatQ42
set_option linter.all false
set_option maxRecDepth 200000
set_option maxHeartbeats 16000000
namespace Go.Proofs.YtdihdapmphkhpaaGreat
open Go.RowKit
theorem tV(v:Nat):(v:Int)/4294967296=upH v:=by unfold upH;omega
theorem uc(v:Nat):(v:Int)%4294967296=loH v:=by unfold loH;omega
theorem DN(c:K)(i fail free:Int)(w:World)(hc:c.ok)(hk:K3 c)(hi0:0<=i)(hi1:i<=5)(hf0:0<=free)(hf1:free<=900000000):
 Calls Tryz.prog 118 #[fC c,.int .i64 i,.int .i64 fail,.int .i64 free] w fun e w'=>gK (gO c (16+8*i) fail free (free+1)) w e w':=by
 obtain⟨kd,ca,cb⟩:=c;have hca:ca<=18446744073709551615:=by have:=hc.2.1;simp only at this;omega
 have hcb:cb<=18446744073709551615:=by have:=hc.2.2;simp only at this;omega
 simp only[fC];have HL:Hid (∀(a:Int)w1,0<=a->a<=1000->Calls Tryz.prog 45 #[.int .i64 a] w1 fun e w'=>e=.returned (.agg #[.int .i64 0,.int .u16 32,.int .u8 0,.int .u8 0,.int .u32 a,.int .i64 0])∧Below w1.heap.size w1 w'):=fun a w1 h0 h1=>rh a w1 h0 h1
 have HT:Hid (∀(kd c k t:Int)w1,Calls Tryz.prog 46 #[.int .i64 kd,.int .u16 c,.int .u32 k,.int .i64 t] w1 fun e w'=>e=.returned (.agg #[.int .i64 kd,.int .u16 c,.int .u8 0,.int .u8 0,.int .u32 k,.int .i64 t])∧Below w1.heap.size w1 w'):=fun kd c k t w1=>mh kd c k t w1
 have HB:Hid (∀(t:Int)w1,Calls Tryz.prog 48 #[.int .i64 t] w1 fun e w'=>e=.returned (.agg #[.int .i64 4,.int .u16 0,.int .u8 0,.int .u8 0,.int .u32 0,.int .i64 t])∧Below w1.heap.size w1 w'):=fun t w1=>mL t w1
 have HH:Hid (∀(a m b:Int)w1,0<=a->a<=1000->Calls Tryz.prog 139 #[.int .i64 a,.int .u32 m,.int .u32 b,.int .i64 fail] w1 fun e w'=>∃v,e=.returned v∧gT w' w1.heap.size v (ig a m b fail)∧Below w1.heap.size w1 w'):=fun a m b w1 h0 h1=>Bt a m b fail w1 h0 h1
 have B0:Below w.heap.size w (w.alloc (.cells #[.int .i64 kd,.int .u64 (ca:Int),.int .u64 (cb:Int)] 84)):=(af _ _).alloc (ae _) _;have A0:gy (w.alloc (.cells #[.int .i64 kd,.int .u64 (ca:Int),.int .u64 (cb:Int)] 84)) (w.heap.size+1) (w.alloc (.cells #[.int .i64 kd,.int .u64 (ca:Int),.int .u64 (cb:Int)] 84)) (.slice none 0 0) []:=gy.nil (by simp);have HX:Hid (∀W v q,gy (w.alloc (.cells #[.int .i64 kd,.int .u64 (ca:Int),.int .u64 (cb:Int)] 84)) (w.heap.size+1) W v q->W.cell? ⟨w.heap.size,0,none⟩=some (.int .i64 kd)∧W.cell? ⟨w.heap.size,1,none⟩=some (.int .u64 (ca:Int))∧W.cell? ⟨w.heap.size,2,none⟩=some (.int .u64 (cb:Int))):=fun W v q a=>
  ⟨(a.b.cell (p:=⟨w.heap.size,0,none⟩) (Nat.lt_succ_self _)).trans (by simp),(a.b.cell (p:=⟨w.heap.size,1,none⟩) (Nat.lt_succ_self _)).trans (by simp),(a.b.cell (p:=⟨w.heap.size,2,none⟩) (Nat.lt_succ_self _)).trans (by simp)⟩
 have HP:Hid (∀W v q,gy (w.alloc (.cells #[.int .i64 kd,.int .u64 (ca:Int),.int .u64 (cb:Int)] 84)) (w.heap.size+1) W v q->q=gO ⟨kd,ca,cb⟩ (16+8*i) fail free (free+1)->gK (gO ⟨kd,ca,cb⟩ (16+8*i) fail free (free+1)) w (.returned v) W):=fun W v q a e=>a.post B0 (Nat.le_succ _) e
 clear hc B0;rcases hk with hk|hk|hk
 ·simp only at hk;subst hk;have HF:Hid (gK (gO ⟨0,ca,cb⟩ (16+8*i) fail free (free+1)) w (.returned (.slice none 0 0)) (w.alloc (.cells #[.int .i64 0,.int .u64 (ca:Int),.int .u64 (cb:Int)] 84))):=HP.out _ _ _ A0 (by simp[gO]);clear HL HT HB HH A0 HX HP;generalize gO ⟨0,ca,cb⟩ (16+8*i) fail free (free+1)=l at*;go_enter Tryz.func118,Tryz.ntmps118;go_wp2;go_ret;exact HF.out
 ·simp only at hk;subst hk;have HE:Hid (gO ⟨1,ca,cb⟩ (16+8*i) fail free (free+1)=ig (16+8*i+4) ((ca:Int)/4294967296) ((cb:Int)/4294967296) fail++ig (16+8*i) ((ca:Int)%4294967296) ((cb:Int)%4294967296) fail):=by
   show _=_;simp only[gO,tV,uc,if_true]
  have HLn:Hid (∀a m b fail,(ig a m b fail).length<=3):=fun a m b fail=>ru a m b fail
  clear HL HT HB HX;generalize gO ⟨1,ca,cb⟩ (16+8*i) fail free (free+1)=l at*;go_enter Tryz.func118,Tryz.ntmps118;go_wp2_with fail;refine(HH.out _ _ _ _ (by omega) (by omega)).mono ?_;rintro _ W1⟨v1,rfl,o1,hb1⟩;have hs0:(w.alloc (.cells #[.int .i64 1,.int .u64 (ca:Int),.int .u64 (cb:Int)] 84)).heap.size=w.heap.size+1:=by simp
  have hsz:=hb1.size;rw[hs0]at o1 hb1 hsz;have A1:gy (w.alloc (.cells #[.int .i64 1,.int .u64 (ca:Int),.int .u64 (cb:Int)] 84)) (w.heap.size+1) W1 v1 (ig (16+8*i+4) ((ca:Int)/4294967296) ((cb:Int)/4294967296) fail):=⟨hb1,o1,hsz⟩;clear hs0 hsz;clear o1 hb1 A0;go_wp2_with fail;refine(HH.out _ _ _ _ (by omega) (by omega)).mono ?_;rintro _ W2⟨v2,rfl,o2,hb2⟩;have A2:=A1.call hb2;clear A1 hb2;go_wp2_with(at_builtin;refine jv rfl (.tmp 45) (.tmp 50) rfl A2 rfl v2 _ _ rfl o2 (by have h1:=HLn.out (16+8*i+4) ((ca:Int)/4294967296) ((cb:Int)/4294967296) fail;have h2:=HLn.out (16+8*i) ((ca:Int)%4294967296) ((cb:Int)%4294967296) fail;omega) ?_);intro v3 W3 A3;have HF:Hid (gK l w (.returned v3) W3):=HP.out _ _ _ A3 HE.out.symm;clear A2 A3 o2 HH HP HE HLn;go_wp2;go_ret;exact HF.out
 simp only at hk;subst hk;clear HH;by_cases ha:ca=0
 ·subst ha;by_cases hb:cb=18446744073709551615
  ·subst hb;have HE:Hid ([]=gO ⟨2,0,18446744073709551615⟩ (16+8*i) fail free (free+1)):=by
    show _=_;simp[gO,ly,jy]
   generalize gO ⟨2,0,18446744073709551615⟩ (16+8*i) fail free (free+1)=l at*;obtain⟨x0,x1,x2⟩:=HX.out _ _ _ A0;go_enter Tryz.func118,Tryz.ntmps118;have HF:Hid (gK l w (.returned (.slice none 0 0)) _):=HP.out _ _ _ A0 HE.out;clear HL HT HB HX HP HE A0;go_wp2;go_ret;exact HF.out
  skip;have HE:Hid ([]++[fi (16+8*i+4)]++[fW 37 ((cb:Int)/4294967296) fail]++[fq 21 ((cb:Int)/4294967296) (free+1)]++[fi (16+8*i)]++[fW 37 ((cb:Int)%4294967296) fail]++[fe (free+1)]=gO ⟨2,0,cb⟩ (16+8*i) fail free (free+1)):=by
   show _=_;simp[gO,ly,jy,nf,tV,uc,hb]
  generalize gO ⟨2,0,cb⟩ (16+8*i) fail free (free+1)=l at*;have hb1:((cb:Int)==18446744073709551615)=false:=by simp;omega
  have hb2:¬((cb:Int)=18446744073709551615):=by omega
  obtain⟨x0,x1,x2⟩:=HX.out _ _ _ A0;go_enter Tryz.func118,Tryz.ntmps118;go_wp2_with fail;refine(HL.out (16+8*i+4) _ (by omega) (by omega)).mono ?_;rintro _ W1⟨rfl,hb⟩;have A1:=A0.call hb;clear hb A0 x0 x1 x2;go_wp2_with(at_builtin;refine eC rfl (.tmp 94) (.tmp 97) rfl (A1.alloc _) rfl _ (fi (16+8*i+4)) rfl (fP (by simp)) (by simp) ?_);intro v2 W2 A2;clear A1;go_wp2_with fail;refine(HT.out 1 37 _ _ _).mono ?_;rintro _ W3⟨rfl,hb⟩;have A3:=A2.call hb;clear hb A2;go_wp2_with(at_builtin;refine eC rfl (.tmp 99) (.tmp 103) rfl (A3.alloc _) rfl _ (fW 37 ((cb:Int)/4294967296) fail) rfl (fP (by simp)) (by simp) ?_);intro v4 W4 A4;clear A3;go_wp2_with fail;refine(HT.out 2 21 _ _ _).mono ?_;rintro _ W5⟨rfl,hb⟩;have A5:=A4.call hb;clear hb A4;go_wp2_with(at_builtin;refine eC rfl (.tmp 105) (.tmp 110) rfl (A5.alloc _) rfl _ (fq 21 ((cb:Int)/4294967296) (free+1)) rfl (fP (by simp)) (by simp) ?_);intro v6 W6 A6;clear A5;go_wp2_with fail;refine(HL.out (16+8*i) _ (by omega) (by omega)).mono ?_;rintro _ W7⟨rfl,hb⟩;have A7:=A6.call hb;clear hb A6;go_wp2_with(at_builtin;refine eC rfl (.tmp 112) (.tmp 115) rfl (A7.alloc _) rfl _ (fi (16+8*i)) rfl (fP (by simp)) (by simp) ?_);intro v8 W8 A8;clear A7;go_wp2_with fail;refine(HT.out 1 37 _ _ _).mono ?_;rintro _ W9⟨rfl,hb⟩;have A9:=A8.call hb;clear hb A8;go_wp2_with(at_builtin;refine eC rfl (.tmp 117) (.tmp 121) rfl (A9.alloc _) rfl _ (fW 37 ((cb:Int)%4294967296) fail) rfl (fP (by simp)) (by simp) ?_);intro v10 W10 A10;clear A9;go_wp2_with fail;refine(HB.out _ _).mono ?_;rintro _ W11⟨rfl,hb⟩;have A11:=A10.call hb;clear hb A10;go_wp2_with(at_builtin;refine eC rfl (.tmp 123) (.tmp 127) rfl (A11.alloc _) rfl _ (fe (free+1)) rfl (fP (by simp)) (by simp) ?_);intro v12 W12 A12;clear A11;have HF:Hid (gK l w (.returned v12) W12):=HP.out _ _ _ A12 HE.out;clear HL HT HB HX HP HE A12;go_wp2;go_ret;exact HF.out
 by_cases hb:cb=18446744073709551615
 ·subst hb;have HE:Hid ([]++[fi (16+8*i+4)]++[fW 37 ((ca:Int)/4294967296) free]++[fq 21 ((ca:Int)/4294967296) fail]++[fi (16+8*i)]++[fq 53 ((ca:Int)%4294967296) fail]++[fe free]=gO ⟨2,ca,18446744073709551615⟩ (16+8*i) fail free (free+1)):=by
   show _=_;simp[gO,ly,jy,td,tV,uc,ha]
  generalize gO ⟨2,ca,18446744073709551615⟩ (16+8*i) fail free (free+1)=l at*;have ha1:((ca:Int)==0)=false:=by simp;omega
  have ha2:¬((ca:Int)=0):=by omega
  obtain⟨x0,x1,x2⟩:=HX.out _ _ _ A0;go_enter Tryz.func118,Tryz.ntmps118;go_wp2_with fail;refine(HL.out (16+8*i+4) _ (by omega) (by omega)).mono ?_;rintro _ W1⟨rfl,hb⟩;have A1:=A0.call hb;clear hb A0 x0 x1 x2;go_wp2_with(at_builtin;refine eC rfl (.tmp 58) (.tmp 61) rfl (A1.alloc _) rfl _ (fi (16+8*i+4)) rfl (fP (by simp)) (by simp) ?_);intro v2 W2 A2;clear A1;go_wp2_with fail;refine(HT.out 1 37 _ _ _).mono ?_;rintro _ W3⟨rfl,hb⟩;have A3:=A2.call hb;clear hb A2;go_wp2_with(at_builtin;refine eC rfl (.tmp 63) (.tmp 67) rfl (A3.alloc _) rfl _ (fW 37 ((ca:Int)/4294967296) free) rfl (fP (by simp)) (by simp) ?_);intro v4 W4 A4;clear A3;go_wp2_with fail;refine(HT.out 2 21 _ _ _).mono ?_;rintro _ W5⟨rfl,hb⟩;have A5:=A4.call hb;clear hb A4;go_wp2_with(at_builtin;refine eC rfl (.tmp 69) (.tmp 73) rfl (A5.alloc _) rfl _ (fq 21 ((ca:Int)/4294967296) fail) rfl (fP (by simp)) (by simp) ?_);intro v6 W6 A6;clear A5;go_wp2_with fail;refine(HL.out (16+8*i) _ (by omega) (by omega)).mono ?_;rintro _ W7⟨rfl,hb⟩;have A7:=A6.call hb;clear hb A6;go_wp2_with(at_builtin;refine eC rfl (.tmp 75) (.tmp 78) rfl (A7.alloc _) rfl _ (fi (16+8*i)) rfl (fP (by simp)) (by simp) ?_);intro v8 W8 A8;clear A7;go_wp2_with fail;refine(HT.out 2 53 _ _ _).mono ?_;rintro _ W9⟨rfl,hb⟩;have A9:=A8.call hb;clear hb A8;go_wp2_with(at_builtin;refine eC rfl (.tmp 80) (.tmp 84) rfl (A9.alloc _) rfl _ (fq 53 ((ca:Int)%4294967296) fail) rfl (fP (by simp)) (by simp) ?_);intro v10 W10 A10;clear A9;go_wp2_with fail;refine(HB.out _ _).mono ?_;rintro _ W11⟨rfl,hb⟩;have A11:=A10.call hb;clear hb A10;go_wp2_with(at_builtin;refine eC rfl (.tmp 86) (.tmp 89) rfl (A11.alloc _) rfl _ (fe free) rfl (fP (by simp)) (by simp) ?_);intro v12 W12 A12;clear A11;obtain⟨x0,x1,x2⟩:=HX.out _ _ _ A12;have HF:Hid (gK l w (.returned v12) W12):=HP.out _ _ _ A12 HE.out;clear HL HT HB HX HP HE A12;go_wp2;go_ret;exact HF.out
 skip;have HE:Hid ([]++[fi (16+8*i+4)]++[fW 37 ((ca:Int)/4294967296) free]++[fq 21 ((ca:Int)/4294967296) fail]++[fi (16+8*i)]++[fq 53 ((ca:Int)%4294967296) fail]++[fe free]++[fi (16+8*i+4)]++[fW 37 ((cb:Int)/4294967296) fail]++[fq 21 ((cb:Int)/4294967296) (free+1)]++[fi (16+8*i)]++[fW 37 ((cb:Int)%4294967296) fail]++[fe (free+1)]=gO ⟨2,ca,cb⟩ (16+8*i) fail free (free+1)):=by
  show _=_;simp[gO,ly,jy,td,nf,tV,uc,ha,hb]
 generalize gO ⟨2,ca,cb⟩ (16+8*i) fail free (free+1)=l at*;have ha1:((ca:Int)==0)=false:=by simp;omega
 have ha2:¬((ca:Int)=0):=by omega
 have hb1:((cb:Int)==18446744073709551615)=false:=by simp;omega
 have hb2:¬((cb:Int)=18446744073709551615):=by omega
 obtain⟨x0,x1,x2⟩:=HX.out _ _ _ A0;go_enter Tryz.func118,Tryz.ntmps118;go_wp2_with fail;refine(HL.out (16+8*i+4) _ (by omega) (by omega)).mono ?_;rintro _ W1⟨rfl,hb⟩;have A1:=A0.call hb;clear hb A0 x0 x1 x2;go_wp2_with(at_builtin;refine eC rfl (.tmp 58) (.tmp 61) rfl (A1.alloc _) rfl _ (fi (16+8*i+4)) rfl (fP (by simp)) (by simp) ?_);intro v2 W2 A2;clear A1;go_wp2_with fail;refine(HT.out 1 37 _ _ _).mono ?_;rintro _ W3⟨rfl,hb⟩;have A3:=A2.call hb;clear hb A2;go_wp2_with(at_builtin;refine eC rfl (.tmp 63) (.tmp 67) rfl (A3.alloc _) rfl _ (fW 37 ((ca:Int)/4294967296) free) rfl (fP (by simp)) (by simp) ?_);intro v4 W4 A4;clear A3;go_wp2_with fail;refine(HT.out 2 21 _ _ _).mono ?_;rintro _ W5⟨rfl,hb⟩;have A5:=A4.call hb;clear hb A4;go_wp2_with(at_builtin;refine eC rfl (.tmp 69) (.tmp 73) rfl (A5.alloc _) rfl _ (fq 21 ((ca:Int)/4294967296) fail) rfl (fP (by simp)) (by simp) ?_);intro v6 W6 A6;clear A5;go_wp2_with fail;refine(HL.out (16+8*i) _ (by omega) (by omega)).mono ?_;rintro _ W7⟨rfl,hb⟩;have A7:=A6.call hb;clear hb A6;go_wp2_with(at_builtin;refine eC rfl (.tmp 75) (.tmp 78) rfl (A7.alloc _) rfl _ (fi (16+8*i)) rfl (fP (by simp)) (by simp) ?_);intro v8 W8 A8;clear A7;go_wp2_with fail;refine(HT.out 2 53 _ _ _).mono ?_;rintro _ W9⟨rfl,hb⟩;have A9:=A8.call hb;clear hb A8;go_wp2_with(at_builtin;refine eC rfl (.tmp 80) (.tmp 84) rfl (A9.alloc _) rfl _ (fq 53 ((ca:Int)%4294967296) fail) rfl (fP (by simp)) (by simp) ?_);intro v10 W10 A10;clear A9;go_wp2_with fail;refine(HB.out _ _).mono ?_;rintro _ W11⟨rfl,hb⟩;have A11:=A10.call hb;clear hb A10;go_wp2_with(at_builtin;refine eC rfl (.tmp 86) (.tmp 89) rfl (A11.alloc _) rfl _ (fe free) rfl (fP (by simp)) (by simp) ?_);intro v12 W12 A12;clear A11;obtain⟨x0,x1,x2⟩:=HX.out _ _ _ A12;go_wp2_with fail;refine(HL.out (16+8*i+4) _ (by omega) (by omega)).mono ?_;rintro _ W13⟨rfl,hb⟩;have A13:=A12.call hb;clear hb A12 x0 x1 x2;go_wp2_with(at_builtin;refine eC rfl (.tmp 94) (.tmp 97) rfl (A13.alloc _) rfl _ (fi (16+8*i+4)) rfl (fP (by simp)) (by simp) ?_);intro v14 W14 A14;clear A13;go_wp2_with fail;refine(HT.out 1 37 _ _ _).mono ?_;rintro _ W15⟨rfl,hb⟩;have A15:=A14.call hb;clear hb A14;go_wp2_with(at_builtin;refine eC rfl (.tmp 99) (.tmp 103) rfl (A15.alloc _) rfl _ (fW 37 ((cb:Int)/4294967296) fail) rfl (fP (by simp)) (by simp) ?_);intro v16 W16 A16;clear A15;go_wp2_with fail;refine(HT.out 2 21 _ _ _).mono ?_;rintro _ W17⟨rfl,hb⟩;have A17:=A16.call hb;clear hb A16;go_wp2_with(at_builtin;refine eC rfl (.tmp 105) (.tmp 110) rfl (A17.alloc _) rfl _ (fq 21 ((cb:Int)/4294967296) (free+1)) rfl (fP (by simp)) (by simp) ?_);intro v18 W18 A18;clear A17;go_wp2_with fail;refine(HL.out (16+8*i) _ (by omega) (by omega)).mono ?_;rintro _ W19⟨rfl,hb⟩;have A19:=A18.call hb;clear hb A18;go_wp2_with(at_builtin;refine eC rfl (.tmp 112) (.tmp 115) rfl (A19.alloc _) rfl _ (fi (16+8*i)) rfl (fP (by simp)) (by simp) ?_);intro v20 W20 A20;clear A19;go_wp2_with fail;refine(HT.out 1 37 _ _ _).mono ?_;rintro _ W21⟨rfl,hb⟩;have A21:=A20.call hb;clear hb A20;go_wp2_with(at_builtin;refine eC rfl (.tmp 117) (.tmp 121) rfl (A21.alloc _) rfl _ (fW 37 ((cb:Int)%4294967296) fail) rfl (fP (by simp)) (by simp) ?_);intro v22 W22 A22;clear A21;go_wp2_with fail;refine(HB.out _ _).mono ?_;rintro _ W23⟨rfl,hb⟩;have A23:=A22.call hb;clear hb A22;go_wp2_with(at_builtin;refine eC rfl (.tmp 123) (.tmp 127) rfl (A23.alloc _) rfl _ (fe (free+1)) rfl (fP (by simp)) (by simp) ?_);intro v24 W24 A24;clear A23;have HF:Hid (gK l w (.returned v24) W24):=HP.out _ _ _ A24 HE.out;clear HL HT HB HX HP HE A24;go_wp2;go_ret;exact HF.out
theorem vw(es:List E)(a:Option Addr)(cap:Nat)(w:World)(hs:eS 3 PE w a es)(hn:es.length<=1000000)(hr:gN es<=1000000):
 Calls Tryz.prog 49 #[.slice a es.length cap] w fun e w'=>e=.returned (.int .i64 (iO es))∧w'=w:=by
 have HP:Hid (∀i,i<es.length->∃b o,a=some ⟨b,o,none⟩∧b<w.heap.size∧PE w b (o+i*3) (es.getD i E.zero)):=fun i hi=>hs.at hi E.zero
 have HS:Hid (∀i,i<es.length->gN (es.take (i+1))=gN (es.take i)+(es.getD i E.zero).rules.length):=fun i hi=>DL hi
 have HM:Hid (∀i,gN (es.take i)<=gN es):=fun i=>by have:=fX es i;omega
 have HZ:Hid (gN (es.take 0)=0):=rfl;have HN:Hid (gN (es.take es.length)=gN es):=GZ es;rw[iu];obtain⟨sg,hsg⟩:∃sg:Nat->Nat,∀i,gN (es.take i)=sg i:=⟨_,fun _=>rfl⟩;simp only[hsg]at HS HM HZ HN;clear hsg hs;generalize gN es=tot at*;generalize es.length=n at*;go_enter Tryz.func49,Tryz.ntmps49;go_wp2_with fail;go_loopw [3,4](fun s i wr=>∃k:Nat,k<=n∧i=.int .i64 k∧s=.int .i64 ((n:Int)+13*(sg k:Int))∧wr=w)(fun _ i _=>n-(intOf i).toNat)
 case atStart=>exact⟨0,by omega,by first|rfl|go_num,by rw[HZ.out];exact congrArg (Value.int .i64) (by omega),rfl⟩
 case round=>
  obtain⟨k,hk,rfl,rfl,rfl⟩:=hrel;by_cases hkn:k<n
  ·have hkn':(k:Int)<(n:Int):=by omega
   have hSk:=HS.out k hkn;have hMk:=HM.out (k+1);obtain⟨b,o,rfl,hlt,c0,c1,ar,capr,c2,_⟩:=HP.out k hkn;generalize(es.getD k E.zero).rules.length=m at*;have hm0:(m:Int)<=1000000:=by omega
   have hs0:(sg k:Int)<=1000000:=by omega
   have hn0:(n:Int)<=1000000:=by omega
   have HSk:Hid (sg (k+1)=sg k+m):=hSk;clear HP HS HM HZ HN hSk hMk c0 c1;go_wp2;go_roundw
   case rel=>exact⟨k+1,by omega,by first|rfl|go_num,congrArg (Value.int .i64) (by have:=HSk.out;omega),by first|rfl|trivial⟩
   case measure=>simp[intOf];omega
  have hk':k=n:=by omega
  subst hk';have HNn:=HN.out;have HF:Hid ((k:Int)+13*(sg k:Int)=(k:Int)+13*(tot:Int)):=by show _=_;rw[HNn]
  clear HP HS HM HZ HN HNn;go_wp2;go_ret;exact⟨fL HF.out,rfl⟩
theorem Bo(rs:List (List K))(a:Option Addr)(cap:Nat)(f:Int)(w:World)(hs:eS 1 PR w a rs)(ho:uC rs)(hm:∀r∈rs,r.length=6∧∀c∈r,K3 c)(hn:rs.length<=1000)(hf0:1<=f)(hf1:f<=800000000):
 Calls Tryz.prog 82 #[.slice a rs.length cap,.int .i64 f] w fun e w'=>gK (iU rs f) w e w':=by
 have HC:Hid (∀(i k:Nat)(fail free:Int)w1,i<rs.length->k<6->0<=free->free<=900000000->Calls Tryz.prog 118 #[.agg #[.int .i64 ((rs.getD i []).getD k K.zero).kind,.int .u64 (((rs.getD i []).getD k K.zero).a:Int),.int .u64 (((rs.getD i []).getD k K.zero).b:Int)],.int .i64 (k:Int),.int .i64 fail,.int .i64 free] w1 fun e w'=>∃v,e=.returned v∧gT w' w1.heap.size v (gO ((rs.getD i []).getD k K.zero) (16+8*(k:Int)) fail free (free+1))∧Below w1.heap.size w1 w'):=fun i k fail free w1 hi hk h0 h1=>by
  have hr:rs.getD i []∈rs:=by rw[aa,ag hi];exact aI hi
  obtain⟨h6,h3⟩:=hm _ hr;have hc:(rs.getD i []).getD k K.zero∈rs.getD i []:=by rw[aa (l:=rs.getD i []),ag (by omega)];exact aI (by omega)
  exact DN _ _ _ _ w1 (ho _ hr _ hc) (h3 _ hc) (by omega) (by omega) h0 h1
 have HP:Hid (∀wr,Below w.heap.size w wr->∀i,i<rs.length->∃b o ab ao capr,a=some ⟨b,o,none⟩∧wr.cell? ⟨b,o+i,none⟩=some (.slice (some ⟨ab,ao,none⟩) 6 capr)∧∀k,k<6->wr.cell? ⟨ab,ao+k*3,none⟩=some (.int .i64 ((rs.getD i []).getD k K.zero).kind)∧wr.cell? ⟨ab,ao+k*3+1,none⟩=some (.int .u64 (((rs.getD i []).getD k K.zero).a:Int))∧wr.cell? ⟨ab,ao+k*3+2,none⟩=some (.int .u64 (((rs.getD i []).getD k K.zero).b:Int))):=fun wr hB i hi=>by
  have hr:rs.getD i []∈rs:=by rw[aa,ag hi];exact aI hi
  obtain⟨h6,_⟩:=hm _ hr;obtain⟨b,o,rfl,hlt,ar,capr,c0,hsr⟩:=(hs.below PR.stays hB).at hi [];rw[bR]at c0;obtain⟨ab,ao,rfl,_⟩:=hsr.at (i:=0) (by omega) K.zero;rw[h6]at c0;refine⟨b,o,ab,ao,capr,rfl,c0,fun k hk=> ?_⟩;obtain⟨b',o',e,_,d0,d1,d2⟩:=hsr.at (i:=k) (by omega) K.zero
  cases e;exact⟨d0,d1,d2⟩
 have H6:Hid (∀i,i<rs.length->(rs.getD i []).length=6):=fun i hi=>(hm _ (by rw[aa,ag hi];exact aI hi)).1
 have HR:Hid (∀w1,Calls Tryz.prog 44 #[.int .u16 6,.int .u32 2147418112] w1 fun e w'=>e=.returned (.agg #[.int .i64 0,.int .u16 6,.int .u8 0,.int .u8 0,.int .u32 2147418112,.int .i64 0])∧Below w1.heap.size w1 w'):=fun w1=>qm 6 2147418112 w1
 have HLb:Hid (∀(t:Int)w1,Calls Tryz.prog 48 #[.int .i64 t] w1 fun e w'=>e=.returned (.agg #[.int .i64 4,.int .u16 0,.int .u8 0,.int .u8 0,.int .u32 0,.int .i64 t])∧Below w1.heap.size w1 w'):=fun t w1=>mL t w1
 have HSt:Hid (∀i,i<rs.length->∀g,iU (rs.drop i) g=(lz (rs.getD i []) 0 (AK rs.length i g) g++[jQ 2147418112])++((if i+1=rs.length then []else [fe g])++iU (rs.drop (i+1)) (g+13))):=fun i hi g=>Bk hi g
 have HCs:Hid (∀i k,i<rs.length->k<6->∀fail base,lz ((rs.getD i []).drop k) (k:Int) fail base=gO ((rs.getD i []).getD k K.zero) (16+8*(k:Int)) fail (base+1+2*(k:Int)) (base+1+2*(k:Int)+1)++lz ((rs.getD i []).drop (k+1)) ((k+1:Nat):Int) fail base):=fun i k hi hk fail base=>CA (by rw[H6.out i hi];exact hk) fail base
 have HC6:Hid (∀i,i<rs.length->∀fail base,lz ((rs.getD i []).drop 6) ((6:Nat):Int) fail base=[]):=fun i hi fail base=>by rw[List.drop_eq_nil_of_le (by rw[H6.out i hi];exact ae _)];rfl
 have hBl:=sq rs (fun r hr=>by rw[(hm r hr).1];exact ae _) f;have HEnd:Hid (iU (rs.drop rs.length) (f+13*(rs.length:Int))=[]):=by show _=_;rw[dC];rfl
 have HZ:Hid ([]++iU (rs.drop 0) (f+13*((0:Nat):Int))=iU rs f):=by show _=_;simp
 have HPo:Hid (∀wr v q,gy w w.heap.size wr v q->q=iU rs f->gK (iU rs f) w (.returned v) wr):=fun wr v q h e=>h.post (af _ _) (ae _) e
 have HA0:Hid (gy w w.heap.size w (.slice none 0 0) []):=gy.nil (ae _);obtain⟨bd,hbd⟩:∃bd:Nat->Int->List It,∀i g,iU (rs.drop i) g=bd i g:=⟨_,fun _ _=>rfl⟩;obtain⟨cs,hcs⟩:∃cs:Nat->Nat->Int->Int->List It,∀i k fail base,lz ((rs.getD i []).drop k) (k:Int) fail base=cs i k fail base:=⟨_,fun _ _ _ _=>rfl⟩;have HC0:Hid (∀i fail base,lz (rs.getD i []) 0 fail base=cs i 0 fail base):=fun i fail base=>by have:=hcs i 0 fail base;simpa using this
 simp only[hbd,HC0.out]at HSt;simp only[hcs]at HCs HC6;simp only[hbd]at HEnd HZ;obtain⟨gk,hgk⟩:∃gk:Nat->Nat->K,∀i k,(rs.getD i []).getD k K.zero=gk i k:=⟨_,fun _ _=>rfl⟩;simp only[hgk]at HC HP HCs;generalize iU rs f=full at*;clear hs ho hm hbd hcs hgk HC0 H6;generalize rs.length=n at*;clear rs;go_enter Tryz.func82,Tryz.ntmps82;go_wp2_with fail;go_loopw [5,6](fun v i wr=>∃(k:Nat)(q:List It)(v6:Value),v6=v∧k<=n∧i=.int .i64 k∧gy w w.heap.size wr v6 q∧Hid (q++bd k (f+13*(k:Int))=full))(fun _ i _=>n-(intOf i).toNat)
 case atStart=>exact⟨0,[],_,rfl,by omega,by first|rfl|go_num,HA0.out,HZ.out⟩
 case round=>
  obtain⟨i,q,v6,hv6,hi,rfl,A,HQ⟩:=hrel;subst hv6;rename World=>wr
  have hql:q.length<=full.length:=by rw[<-HQ.out,aj];omega
  by_cases hin:i<n
  ·have hin':(i:Int)<(n:Int):=by omega
   by_cases hla:i+1=n
   ·skip;have HB:Hid (bd i (f+13*(i:Int))=(cs i 0 (0:Int) (f+13*(i:Int))++[jQ 2147418112])++([]++bd (i+1) (f+13*(i:Int)+13))):=by
     have h:=HSt.out i hin (f+13*(i:Int));unfold AK at h;rw[if_pos hla,if_pos hla]at h;exact h
    have HQ2:Hid (q++cs i 0 (0:Int) (f+13*(i:Int))++[jQ 2147418112]++[]++bd (i+1) (f+13*((i+1:Nat):Int))=full):=by
     show _=_;rw[<-HQ.out,HB.out,show f+13*((i+1:Nat):Int)=f+13*(i:Int)+13 by omega];simp only[aF]
    have HLq:Hid ((q++cs i 0 (0:Int) (f+13*(i:Int))).length+2<=74002):=by
     show _<=_;have h:=congrArg List.length HQ2.out;simp only[aj]at h⊢;omega
    have hnI:(n:Int)<=1000:=by omega
    have hiI:(i:Int)<=1000:=by omega
    have hwn:(n:Int)-1=(i:Int):=by omega
    clear HB HQ hla;have HA:Hid (gy w w.heap.size wr v6 q):=A;clear A;go_wp2_with fail;go_loopw [5,9](fun v k wr2=>∃(k':Nat)(q':List It)(v7:Value),v7=v∧k'<=6∧k=.int .i64 k'∧gy w w.heap.size wr2 v7 q'∧Hid (q'++cs i k' (0:Int) (f+13*(i:Int))=q++cs i 0 (0:Int) (f+13*(i:Int))))(fun _ k _=>6-(intOf k).toNat)
    case atStart=>exact⟨0,q,_,rfl,by omega,by first|rfl|go_num,HA.out,rfl⟩
    case round=>
     clear HA;obtain⟨k,q',v7,hv7,hk,rfl,A,HK⟩:=hrel;subst hv7;rename World=>W0
     have hq':q'.length<=74000:=by
      have h:=congrArg List.length HK.out;have:=HLq.out;simp only[aj]at h this;omega
     by_cases hk6:k<6
     ·have hk6':(k:Int)<6:=by omega
      have HCk:=HCs.out i k hin hk6 (0:Int) (f+13*(i:Int));have HN:Hid (∀q2,q2=q'++gO (gk i k) (16+8*(k:Int)) (0:Int) (f+13*(i:Int)+1+2*(k:Int)) (f+13*(i:Int)+1+2*(k:Int)+1)->q2++cs i (k+1) (0:Int) (f+13*(i:Int))=q++cs i 0 (0:Int) (f+13*(i:Int))):=fun q2 e=>by
       rw[e,<-HK.out,HCk,aF]
      have HCl:Hid (∀w1,Calls Tryz.prog 118 #[.agg #[.int .i64 (gk i k).kind,.int .u64 ((gk i k).a:Int),.int .u64 ((gk i k).b:Int)],.int .i64 (k:Int),.int .i64 (0:Int),.int .i64 (f+13*(i:Int)+1+2*(k:Int))] w1 fun e w'=>∃v,e=.returned v∧gT w' w1.heap.size v (gO (gk i k) (16+8*(k:Int)) (0:Int) (f+13*(i:Int)+1+2*(k:Int)) (f+13*(i:Int)+1+2*(k:Int)+1))∧Below w1.heap.size w1 w'):=fun w1=>HC.out i k _ _ w1 hin hk6 (by omega) (by omega)
      have HCn:Hid ((gO (gk i k) (16+8*(k:Int)) (0:Int) (f+13*(i:Int)+1+2*(k:Int)) (f+13*(i:Int)+1+2*(k:Int)+1)).length<=12):=si _ _ _ _ _;obtain⟨b,o,ab,ao,capr,rfl,c0,ck⟩:=HP.out W0 A.b i hin;obtain⟨d0,d1,d2⟩:=ck k hk6;clear ck HCk HK;generalize gO (gk i k) (16+8*(k:Int)) (0:Int) (f+13*(i:Int)+1+2*(k:Int)) (f+13*(i:Int)+1+2*(k:Int)+1)=cl at*;generalize gk i k=c at*;obtain⟨kd,ca,cb⟩:=c;simp only at d0 d1 d2;have HCm:Hid (∀w1,Calls Tryz.prog 118 #[.agg #[.int .i64 kd,.int .u64 (ca:Int),.int .u64 (cb:Int)],.int .i64 (k:Int),.int .i64 (0:Int),.int .i64 (f+13*(i:Int)+1+2*(k:Int))] w1 fun e w'=>∃v,e=.returned v∧gT w' w1.heap.size v cl∧Below w1.heap.size w1 w'):=HCl;have HA:Hid (gy w w.heap.size W0 v7 q'):=A;clear A HCl HP HC HSt HCs HC6 HEnd HZ HPo HA0 HR HLb HQ2 HLq;go_wp2_with fail;refine(HCm.out _).mono ?_;rintro _ W1⟨v1,rfl,o1,hb1⟩;have A1:=HA.out.call hb1;clear HA hb1 c0 d0 d1 d2 HCm;have hcn:=HCn.out;go_wp2_with(at_builtin;refine jv rfl (.tmp 30) (.tmp 46) rfl A1 rfl v1 _ _ rfl o1 (by omega) ?_);intro v2 W2 A2;have HN2:Hid ((q'++cl)++cs i (k+1) (0:Int) (f+13*(i:Int))=q++cs i 0 (0:Int) (f+13*(i:Int))):=HN.out _ rfl;clear A1 o1 HN HCn hcn;go_wp2;go_roundw
      case rel=>exact⟨k+1,_,_,rfl,by omega,by first|rfl|go_num,A2,HN2⟩
      case measure=>simp[intOf];omega
     have hk6':k=6:=by omega
     subst hk6';have hK:=HK.out;rw[HC6.out i hin,bM]at hK;subst hK;have hlq:=HLq.out;generalize q++cs i 0 (0:Int) (f+13*(i:Int))=q1 at*;have HA:Hid (gy w w.heap.size W0 v7 q1):=A;clear A HK HCs HC6 HSt HP HC HEnd HZ HPo HA0;go_wp2_with fail;refine(HR.out _).mono ?_;rintro _ W1⟨rfl,hb1⟩;have A1:=HA.out.call hb1;clear HA hb1;go_wp2_with(at_builtin;refine eC rfl (.tmp 48) (.tmp 50) rfl (A1.alloc _) rfl _ (jQ 2147418112) rfl (fP (by simp)) (by omega) ?_);intro v2 W2 A2;clear A1;have HQ3:Hid (q1++[jQ 2147418112]++bd (i+1) (f+13*((i+1:Nat):Int))=full):=by have h:=HQ2.out;rw[bM]at h;exact h
     clear HQ2 HLq hlq HR HLb;go_wp2;go_roundw
     case rel=>exact⟨i+1,_,_,rfl,by omega,by first|rfl|go_num,A2,HQ3⟩
     case measure=>simp[intOf];omega
   skip;have HB:Hid (bd i (f+13*(i:Int))=(cs i 0 (f+13*(i:Int)) (f+13*(i:Int))++[jQ 2147418112])++([fe (f+13*(i:Int))]++bd (i+1) (f+13*(i:Int)+13))):=by
    have h:=HSt.out i hin (f+13*(i:Int));unfold AK at h;rw[if_neg hla,if_neg hla]at h;exact h
   have HQ2:Hid (q++cs i 0 (f+13*(i:Int)) (f+13*(i:Int))++[jQ 2147418112]++[fe (f+13*(i:Int))]++bd (i+1) (f+13*((i+1:Nat):Int))=full):=by
    show _=_;rw[<-HQ.out,HB.out,show f+13*((i+1:Nat):Int)=f+13*(i:Int)+13 by omega];simp only[aF]
   have HLq:Hid ((q++cs i 0 (f+13*(i:Int)) (f+13*(i:Int))).length+2<=74002):=by
    show _<=_;have h:=congrArg List.length HQ2.out;simp only[aj]at h⊢;omega
   have hnI:(n:Int)<=1000:=by omega
   have hiI:(i:Int)<=1000:=by omega
   have hwn:((i:Int)==(n:Int)-1)=false:=by simp;omega
   have hwn2:¬((i:Int)=(n:Int)-1):=by omega
   have hne:((f+13*(i:Int))==0)=false:=by simp;omega
   have hne2:¬(f+13*(i:Int))=0:=by omega
   clear HB HQ hla;have HA:Hid (gy w w.heap.size wr v6 q):=A;clear A;go_wp2_with fail;go_loopw [5,9](fun v k wr2=>∃(k':Nat)(q':List It)(v7:Value),v7=v∧k'<=6∧k=.int .i64 k'∧gy w w.heap.size wr2 v7 q'∧Hid (q'++cs i k' (f+13*(i:Int)) (f+13*(i:Int))=q++cs i 0 (f+13*(i:Int)) (f+13*(i:Int))))(fun _ k _=>6-(intOf k).toNat)
   case atStart=>exact⟨0,q,_,rfl,by omega,by first|rfl|go_num,HA.out,rfl⟩
   case round=>
    clear HA;obtain⟨k,q',v7,hv7,hk,rfl,A,HK⟩:=hrel;subst hv7;rename World=>W0
    have hq':q'.length<=74000:=by
     have h:=congrArg List.length HK.out;have:=HLq.out;simp only[aj]at h this;omega
    by_cases hk6:k<6
    ·have hk6':(k:Int)<6:=by omega
     have HCk:=HCs.out i k hin hk6 (f+13*(i:Int)) (f+13*(i:Int));have HN:Hid (∀q2,q2=q'++gO (gk i k) (16+8*(k:Int)) (f+13*(i:Int)) (f+13*(i:Int)+1+2*(k:Int)) (f+13*(i:Int)+1+2*(k:Int)+1)->q2++cs i (k+1) (f+13*(i:Int)) (f+13*(i:Int))=q++cs i 0 (f+13*(i:Int)) (f+13*(i:Int))):=fun q2 e=>by
      rw[e,<-HK.out,HCk,aF]
     have HCl:Hid (∀w1,Calls Tryz.prog 118 #[.agg #[.int .i64 (gk i k).kind,.int .u64 ((gk i k).a:Int),.int .u64 ((gk i k).b:Int)],.int .i64 (k:Int),.int .i64 (f+13*(i:Int)),.int .i64 (f+13*(i:Int)+1+2*(k:Int))] w1 fun e w'=>∃v,e=.returned v∧gT w' w1.heap.size v (gO (gk i k) (16+8*(k:Int)) (f+13*(i:Int)) (f+13*(i:Int)+1+2*(k:Int)) (f+13*(i:Int)+1+2*(k:Int)+1))∧Below w1.heap.size w1 w'):=fun w1=>HC.out i k _ _ w1 hin hk6 (by omega) (by omega)
     have HCn:Hid ((gO (gk i k) (16+8*(k:Int)) (f+13*(i:Int)) (f+13*(i:Int)+1+2*(k:Int)) (f+13*(i:Int)+1+2*(k:Int)+1)).length<=12):=si _ _ _ _ _;obtain⟨b,o,ab,ao,capr,rfl,c0,ck⟩:=HP.out W0 A.b i hin;obtain⟨d0,d1,d2⟩:=ck k hk6;clear ck HCk HK;generalize gO (gk i k) (16+8*(k:Int)) (f+13*(i:Int)) (f+13*(i:Int)+1+2*(k:Int)) (f+13*(i:Int)+1+2*(k:Int)+1)=cl at*;generalize gk i k=c at*;obtain⟨kd,ca,cb⟩:=c;simp only at d0 d1 d2;have HCm:Hid (∀w1,Calls Tryz.prog 118 #[.agg #[.int .i64 kd,.int .u64 (ca:Int),.int .u64 (cb:Int)],.int .i64 (k:Int),.int .i64 (f+13*(i:Int)),.int .i64 (f+13*(i:Int)+1+2*(k:Int))] w1 fun e w'=>∃v,e=.returned v∧gT w' w1.heap.size v cl∧Below w1.heap.size w1 w'):=HCl;have HA:Hid (gy w w.heap.size W0 v7 q'):=A;clear A HCl HP HC HSt HCs HC6 HEnd HZ HPo HA0 HR HLb HQ2 HLq;go_wp2_with fail;refine(HCm.out _).mono ?_;rintro _ W1⟨v1,rfl,o1,hb1⟩;have A1:=HA.out.call hb1;clear HA hb1 c0 d0 d1 d2 HCm;have hcn:=HCn.out;go_wp2_with(at_builtin;refine jv rfl (.tmp 30) (.tmp 46) rfl A1 rfl v1 _ _ rfl o1 (by omega) ?_);intro v2 W2 A2;have HN2:Hid ((q'++cl)++cs i (k+1) (f+13*(i:Int)) (f+13*(i:Int))=q++cs i 0 (f+13*(i:Int)) (f+13*(i:Int))):=HN.out _ rfl;clear A1 o1 HN HCn hcn;go_wp2;go_roundw
     case rel=>exact⟨k+1,_,_,rfl,by omega,by first|rfl|go_num,A2,HN2⟩
     case measure=>simp[intOf];omega
    have hk6':k=6:=by omega
    subst hk6';have hK:=HK.out;rw[HC6.out i hin,bM]at hK;subst hK;have hlq:=HLq.out;generalize q++cs i 0 (f+13*(i:Int)) (f+13*(i:Int))=q1 at*;have HA:Hid (gy w w.heap.size W0 v7 q1):=A;clear A HK HCs HC6 HSt HP HC HEnd HZ HPo HA0;go_wp2_with fail;refine(HR.out _).mono ?_;rintro _ W1⟨rfl,hb1⟩;have A1:=HA.out.call hb1;clear HA hb1;go_wp2_with(at_builtin;refine eC rfl (.tmp 48) (.tmp 50) rfl (A1.alloc _) rfl _ (jQ 2147418112) rfl (fP (by simp)) (by omega) ?_);intro v2 W2 A2;clear A1;go_wp2_with fail;refine(HLb.out _ _).mono ?_;rintro _ W3⟨rfl,hb3⟩;have A3:=A2.call hb3;clear A2 hb3;go_wp2_with(at_builtin;refine eC rfl (.tmp 54) (.tmp 57) rfl (A3.alloc _) rfl _ (fe (f+13*(i:Int))) rfl (fP (by simp)) (by simp;omega) ?_);intro v4 W4 A4;have HA4:Hid (gy w w.heap.size W4 v4 (q1++[jQ 2147418112]++[fe (f+13*(i:Int))])):=by
     show gy _ _ _ _ _;rw[aF];exact A4
    clear A3 A4 HLq hlq HR HLb;go_wp2;go_roundw
    case rel=>exact⟨i+1,_,_,rfl,by omega,by first|rfl|go_num,HA4.out,HQ2⟩
    case measure=>simp[intOf];omega
  have hi':i=n:=by omega
  subst hi';have hQ:=HQ.out;rw[HEnd.out,bM]at hQ;have HF:Hid (gK full w (.returned v6) wr):=HPo.out _ _ _ A hQ;clear HQ hQ A HC HP HR HLb HSt HCs HC6 HEnd HZ HPo HA0;go_wp2;go_ret;exact HF.out
theorem DD(k:Nat)(es:List E)(f:Int):0<(gM (k+1) es f).length:=by
 simp only[gM];split
 ·simp
 simp only[aj,aq];omega
theorem Bn(k:Nat):∀(es:List E)(b o cap:Nat)(f:Int)(w:World),eS 3 PEC w (some ⟨b,o,none⟩) es->(∀e∈es,WrE e)->(∀e∈es,WrM e)->1<=es.length->es.length<=k->es.length<=cap->1<=f->f+(2*(es.length:Int)+13*(gN es:Int))<=700000000->74*gN es+3*es.length<=400000->
 Calls Tryz.prog 47 #[.slice (some ⟨b,o,none⟩) es.length cap,.int .i64 f] w fun e w'=>gK (gM k es f) w e w':=by
 induction k with
 |zero=>intro es b o cap f w _ _ _ h1 h2;omega
 |succ k ih=>
  intro es b o cap f w hs hE hM hl1 hlk hcap hf0 hfb hpb;by_cases hone:es.length<=1
  ·have hlen:es.length=1:=by omega
   have hw:=pV hE (i:=0) (by omega);have hwm:WrM (es.getD 0 E.zero):=by
    rw[aa,ag (by omega)];exact hM _ (aI (by omega))
   have g3:=ns es 0;obtain⟨b',o',e,hb,c0,c1,a',cap',c2,hcc,hls⟩:=hs.at (i:=0) (by omega) E.zero
   cases e;simp only[dQ,cA]at c0 c1 c2;have hBl:=sq _ hw.2.1 f;have HE1:Hid ([fq 21 (es.getD 0 E.zero).nr 0]++iU (es.getD 0 E.zero).rules f=gM (k+1) es f):=by show _=_;simp only[gM];rw[if_pos hone];simp
   have HT:Hid (∀w1,Calls Tryz.prog 46 #[.int .i64 2,.int .u16 21,.int .u32 (es.getD 0 E.zero).nr,.int .i64 0] w1 fun e w'=>e=.returned (.agg #[.int .i64 2,.int .u16 21,.int .u8 0,.int .u8 0,.int .u32 (es.getD 0 E.zero).nr,.int .i64 0])∧Below w1.heap.size w1 w'):=fun w1=>mh 2 21 _ 0 w1
   have HY:Hid (∀w1,Below w.heap.size w w1->Calls Tryz.prog 82 #[.slice a' (es.getD 0 E.zero).rules.length cap',.int .i64 f] w1 fun e w'=>∃v,e=.returned v∧gT w' w1.heap.size v (iU (es.getD 0 E.zero).rules f)∧Below w1.heap.size w1 w'):=fun w1 hb1=>Bo _ a' cap' f w1 (hls.below PR.stays hb1) hw.1 hwm hw.2.2.2 hf0 (by omega)
   have HX:Hid (∀w1,Below w.heap.size w w1->w1.cell? ⟨b,o+2,none⟩=some (.slice a' (es.getD 0 E.zero).rules.length cap')):=fun w1 h=>(h.cell (p:=⟨b,_,none⟩) hb).trans c2
   have HPo:Hid (∀w1 v q,gy w w.heap.size w1 v q->q=gM (k+1) es f->gK (gM (k+1) es f) w (.returned v) w1):=fun w1 v q h e=>h.post (af _ _) (ae _) e
   rw[hlen];have hbl:(iU (es.getD 0 E.zero).rules f).length<=400000:=by omega
   generalize iU (es.getD 0 E.zero).rules f=bl at*;generalize gM (k+1) es f=tl at*;generalize(es.getD 0 E.zero).rules.length=rl at*;generalize(es.getD 0 E.zero).nr=nr at*;clear hs hE hM ih hpb hfb c0 hls hw hwm hBl hone hlk hl1 hcap hlen;go_enter Tryz.func47,Tryz.ntmps47;go_wp2_with fail;refine(HT.out _).mono ?_;rintro _ w1⟨rfl,hb1⟩;have A1:gy w w.heap.size (w1.alloc (.cells #[.int .i64 2,.int .u16 21,.int .u8 0,.int .u8 0,.int .u32 nr,.int .i64 0] 91)) (.slice (some ⟨w1.heap.size,0,none⟩) 1 1) [fq 21 nr 0]:=⟨hb1.alloc hb1.size _,lM w1 _ (fq 21 nr 0) hb1.size,by simp;exact dp hb1.size⟩;have d2:=HX.out _ A1.b;clear hb1 HT c1 c2;go_wp2_with fail;generalize w1.alloc (.cells #[.int .i64 2,.int .u16 21,.int .u8 0,.int .u8 0,.int .u32 nr,.int .i64 0] 91)=V1 at*;generalize w1.heap.size=D1 at*;refine(HY.out _ A1.b).mono ?_;rintro _ w2⟨v2,rfl,o2,hb2⟩;have A2:=A1.call hb2;clear A1 hb2 HY d2;go_wp2_with(at_builtin;refine jv rfl (.tmp 17) (.tmp 23) rfl A2 rfl v2 _ _ rfl o2 (by simp;omega) ?_);intro v3 w3 A3;have HF:Hid (gK tl w (.returned v3) w3):=HPo.out w3 v3 _ A3 HE1.out;clear A2 A3 HPo HE1 o2 HX;go_wp2;go_ret;exact HF.out
  have hlen:2<=es.length:=by omega
  obtain⟨h,hh⟩:∃h,es.length/2=h:=⟨_,rfl⟩;have hh1:1<=h∧h<es.length∧h<=k∧es.length-h<=k:=by omega
  have ht:(es.take h).length=h:=by simp;omega
  have hd:(es.drop h).length=es.length-h:=by simp
  have hsp:=fX es h;have t1:=qf k (es.take h) (f+1) (fun e he=>hE e (aB he)) (by omega) (by omega);have t2:=qf k (es.drop h) (f+1+iO (es.take h)) (fun e he=>hE e (aQ he)) (by omega) (by omega);have hnd:=iu (es.take h);rw[ht]at t1 hnd;rw[hd]at t2;have hpos:0<(gM k (es.drop h) (f+1+iO (es.take h))).length:=by
   obtain⟨k',rfl⟩:∃k',k=k'+1:=⟨k-1,by omega⟩;exact DD _ _ _
  have HE1:Hid ([fW 53 (es.getD h E.zero).nr f]++gM k (es.take h) (f+1)++[fe f]++gM k (es.drop h) (f+1+iO (es.take h))=gM (k+1) es f):=by show _=_;simp only[gM];rw[if_neg hone,hh];simp
  obtain⟨b',o',e,hb,_,c1,_⟩:=hs.at (i:=h) (by omega) E.zero
  cases e;have HT:Hid (∀w1,Calls Tryz.prog 46 #[.int .i64 1,.int .u16 53,.int .u32 (es.getD h E.zero).nr,.int .i64 f] w1 fun e w'=>e=.returned (.agg #[.int .i64 1,.int .u16 53,.int .u8 0,.int .u8 0,.int .u32 (es.getD h E.zero).nr,.int .i64 f])∧Below w1.heap.size w1 w'):=fun w1=>mh 1 53 _ f w1
  have HLb:Hid (∀w1,Calls Tryz.prog 48 #[.int .i64 f] w1 fun e w'=>e=.returned (.agg #[.int .i64 4,.int .u16 0,.int .u8 0,.int .u8 0,.int .u32 0,.int .i64 f])∧Below w1.heap.size w1 w'):=fun w1=>mL f w1
  have HT1:Hid (∀w1,Below w.heap.size w w1->Calls Tryz.prog 47 #[.slice (some ⟨b,o,none⟩) h cap,.int .i64 (f+1)] w1 fun e w'=>∃v,e=.returned v∧gT w' w1.heap.size v (gM k (es.take h) (f+1))∧Below w1.heap.size w1 w'):=fun w1 hb1=>by
   have:=ih (es.take h) b o cap (f+1) w1 ((hs.front h).below PEC.stays hb1) (fun e he=>hE e (aB he)) (fun e he=>hM e (aB he)) (by omega) (by omega) (by omega) (by omega) (by rw[ht];omega) (by rw[ht];omega);rw[ht]at this;exact this
  have HNd:Hid (∀w1,Below w.heap.size w w1->Calls Tryz.prog 49 #[.slice (some ⟨b,o,none⟩) h cap] w1 fun e w'=>e=.returned (.int .i64 (iO (es.take h)))∧w'=w1):=fun w1 hb1=>by
   have:=vw (es.take h) (some ⟨b,o,none⟩) cap w1 ((PEC.uq (hs.front h)).below PE.stays hb1) (by omega) (by omega);rw[ht]at this;exact this
  have HT2:Hid (∀w1,Below w.heap.size w w1->Calls Tryz.prog 47 #[.slice (some ⟨b,o+h*3,none⟩) (es.length-h) (cap-h),.int .i64 (f+1+iO (es.take h))] w1 fun e w'=>∃v,e=.returned v∧gT w' w1.heap.size v (gM k (es.drop h) (f+1+iO (es.take h)))∧Below w1.heap.size w1 w'):=fun w1 hb1=>by
   have:=ih (es.drop h) b (o+h*3) (cap-h) (f+1+iO (es.take h)) w1 ((hs.back h).below PEC.stays hb1) (fun e he=>hE e (aQ he)) (fun e he=>hM e (aQ he)) (by omega) (by omega) (by omega) (by omega) (by rw[hd];omega) (by rw[hd];omega);rw[hd]at this;exact this
  have HPo:Hid (∀w1 v q,gy w w.heap.size w1 v q->q=gM (k+1) es f->gK (gM (k+1) es f) w (.returned v) w1):=fun w1 v q h e=>h.post (af _ _) (ae _) e
  have hn0:0<=iO (es.take h):=sG _;have hn1:iO (es.take h)<=700000000:=by omega
  have hf1:f<=700000000:=by omega
  have hl1':(gM k (es.take h) (f+1)).length<=400000:=by omega
  have hl2':(gM k (es.drop h) (f+1+iO (es.take h))).length<=400000:=by omega
  generalize gM (k+1) es f=tl at*;generalize gM k (es.take h) (f+1)=ta at*;generalize gM k (es.drop h) (f+1+iO (es.take h))=tb at*;generalize iO (es.take h)=nd at*;generalize(es.getD h E.zero).nr=nr at*;have hm4:es.length<=400000:=by omega
  clear hs hE hM ih hpb hfb hsp t1 t2 hnd ht hd;generalize es.length=m at*;have hq:(m:Int)/2=(h:Int):=by omega
  have hm1:((m:Int)==1)=false:=by simp;omega
  have hm1':¬(m:Int)=1:=by omega
  have hm1n:¬m=1:=by omega
  have hhc:(h:Int)<=(cap:Int):=by omega
  have hhm:(h:Int)<=(m:Int):=by omega
  have hhm':(h:Int)<(m:Int):=by omega
  have hch:¬cap=h:=by omega
  obtain⟨hh0,hh2,hh3,hh4⟩:=hh1;clear hone hlk hl1 hh hlen;go_enter Tryz.func47,Tryz.ntmps47;go_wp2_with fail;refine(HT.out _).mono ?_;rintro _ w1⟨rfl,hb1⟩;have A1:gy w w.heap.size (w1.alloc (.cells #[.int .i64 1,.int .u16 53,.int .u8 0,.int .u8 0,.int .u32 nr,.int .i64 f] 91)) (.slice (some ⟨w1.heap.size,0,none⟩) 1 1) [fW 53 nr f]:=⟨hb1.alloc hb1.size _,lM w1 _ (fW 53 nr f) hb1.size,by simp;exact dp hb1.size⟩;clear hb1 HT c1;go_wp2_with fail;generalize w1.alloc (.cells #[.int .i64 1,.int .u16 53,.int .u8 0,.int .u8 0,.int .u32 nr,.int .i64 f] 91)=V1 at*;generalize w1.heap.size=D1 at*;refine(HT1.out _ A1.b).mono ?_;rintro _ w2⟨v2,rfl,o2,hb2⟩;have A2:=A1.call hb2;clear A1 hb2 HT1;go_wp2_with(at_builtin;refine jv rfl (.tmp 36) (.tmp 42) rfl A2 rfl v2 _ _ rfl o2 (by simp;omega) ?_);intro v3 w3 A3;clear A2 o2;go_wp2_with fail;refine(HLb.out _).mono ?_;rintro _ w4⟨rfl,hb4⟩;have A4:=A3.call hb4;clear A3 hb4 HLb;go_wp2_with(at_builtin;refine eC rfl (.tmp 44) (.tmp 47) rfl (A4.alloc _) rfl _ (fe f) rfl (fP (by simp)) (by simp;omega) ?_);intro v5 w5 A5';have A5:gy w w.heap.size w5.drew v5 ([fW 53 nr f]++ta++[fe f]):=by
   have h:=A5'.call ((af _ _).drew);simpa using h
  clear A4 A5';have HN5:Hid (Calls Tryz.prog 49 #[.slice (some ⟨b,o,none⟩) h cap] w5.drew fun e w'=>e=.returned (.int .i64 nd)∧w'=w5.drew):=HNd.out _ A5.b;have HT5:Hid (Calls Tryz.prog 47 #[.slice (some ⟨b,o+h*3,none⟩) (m-h) (cap-h),.int .i64 (IntKind.i64.wrap (IntKind.i64.wrap (f+1)+nd))] w5.drew fun e w'=>∃v,e=.returned v∧gT w' w5.drew.heap.size v tb∧Below w5.drew.heap.size w5.drew w'):=by
   have h9:=HT2.out _ A5.b;have hwe:IntKind.i64.wrap (IntKind.i64.wrap (f+1)+nd)=f+1+nd:=by rw[aT,aT];omega
   rw[<-hwe]at h9;exact h9
  have hln:([fW 53 nr f]++ta++[fe f]).length+tb.length<=1000000:=by simp;omega
  have HA5:Hid (gy w w.heap.size w5.drew v5 ([fW 53 nr f]++ta++[fe f])):=A5;have HLn:Hid (([fW 53 nr f]++ta++[fe f]).length+tb.length<=1000000):=hln;clear HNd HT2 A5 hln;generalize [fW 53 nr f]++ta++[fe f]=q5 at*;go_wp2_with fail;go_region_law(first
   |(refine Dz (by rfl) _ _ (by rfl) A9 (by rfl) v9 _ _ (by rfl) o9 hpos HLn.out ?_;intro v10 w10 A10)
   |(go_simp;go_at_call 49;have h5:=HN5.out;refine Calls.mono h5 ?_;clear h5;rintro _ w8⟨rfl,h8⟩;rw[h8];clear h8;dsimp only)
   |(go_simp;go_at_call 47;have h5:=HT5.out;refine Calls.mono h5 ?_;clear h5;rintro _ w9⟨v9,rfl,o9,hb9⟩;have A9:=HA5.out.call hb9;dsimp only))
  all_goals
   have HF:Hid (gK tl w (.returned v10) w10):=HPo.out w10 v10 _ A10 HE1.out;clear A9 A10 HPo HE1 o9 hb9 HN5 HT5 HA5 HLn;go_wp2;go_ret;exact HF.out
end Go.Proofs.YtdihdapmphkhpaaGreat
