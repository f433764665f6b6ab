import Derived.Test.YtdihdapmphkhpaaGreatQ02
set_option linter.all false
set_option maxRecDepth 200000
set_option maxHeartbeats 16000000
namespace Go.Proofs.YtdihdapmphkhpaaGreat
open Go.RowKit
structure DkS(w W:World)(R:Nat)(ad:Option Addr)(cap:Nat)(l:List Int)(j:Nat):Prop where
 rd:Rd W R ad cap l j
 gr:w.grownBy W (some R)
 bx:gu W w.heap.size (.int .i64 0) (.int .u64 0) (.int .u64 0)
 lt:R<w.heap.size
section
variable{w W W1:World}{R cap j j1:Nat}{ad:Option Addr}{l:List Int}
theorem DkS.draw(h:DkS w W R ad cap l j)(hr:Rd W1 R ad cap l j1)(hg:W.grownBy W1 (some R)):DkS w W1 R ad cap l j1:=
 have h1:=h.lt
 ⟨hr,eU h.gr hg,h.bx.grown hg (by simp;omega),h1⟩
theorem DkS.below(h:DkS w W R ad cap l j)(hb:Below W.heap.size W W1):DkS w W1 R ad cap l j:=
 ⟨h.rd.below hb,eU h.gr (fJ hb),h.bx.ey hb,h.lt⟩
theorem DkS.new(h:Rd w R ad cap l j):DkS w (w.alloc (.cells #[.int .i64 0,.int .u64 0,.int .u64 0] 84)) R ad cap l j:=
 ⟨h.alloc _,fu (ah _ _) _,gu.new w _ _ _ _,h.lt⟩
theorem DkS.done(h:DkS w W R ad cap l j)(x y z:Value):Rd (((W.setCell ⟨w.heap.size,0,none⟩ x).setCell ⟨w.heap.size,1,none⟩ y).setCell ⟨w.heap.size,2,none⟩ z) R ad cap l j∧w.grownBy (((W.setCell ⟨w.heap.size,0,none⟩ x).setCell ⟨w.heap.size,1,none⟩ y).setCell ⟨w.heap.size,2,none⟩ z) (some R):=
 have h1:=h.lt
 ⟨h.rd.grown (n5 _ _ _ _ _) h1 (fun k hk=>by simp at hk;omega),jx h.gr (n5 _ _ _ _ _) (fun k hk=>by simp at hk;omega)⟩
end
def KdP(f:Nat)(l:List Int)(j:Nat)(k a b:Int)(J:Nat):Prop:=
 ∀(R cap:Nat)(ad:Option Addr)(w:World),Rd w R ad cap l j->Calls Tryz.prog f #[.pointer (some ⟨R,0,none⟩)] w fun e w'=>e=.returned (.agg #[.int .i64 k,.int .u64 a,.int .u64 b])∧Rd w' R ad cap l J∧w.grownBy w' (some R)
theorem KdP.ex{f:Nat}{l:List Int}{j:Nat}{k a b:Int}{J:Nat}(h:KdP f l j k a b J)(hf:(0<=k∧k<=2)∧isU a∧isU b):∃k a b J,KdP f l j k a b J∧(0<=k∧k<=2)∧isU a∧isU b:=⟨k,a,b,J,h,hf⟩
theorem yK(l:List Int)(hl:eV l)(j:Nat):∃k a b J,KdP 137 l j k a b J∧(0<=k∧k<=2)∧isU a∧isU b:=by
 have hx0:=ez hl j;have HN:Hid (∀t R ad cap W,Rd W R ad cap l t->Calls Tryz.prog 18 #[.pointer (some ⟨R,0,none⟩)] W fun e w'=>e=.returned (.int .i64 (l.getD t 0))∧Rd w' R ad cap l (t+1)∧W.grownBy w' (some R)):=fun t R ad cap W h=>lT R cap ad l t W h
 have HN0:Hid (∀R ad cap W,Rd W R ad cap l j->Calls Tryz.prog 18 #[.pointer (some ⟨R,0,none⟩)] W fun e w'=>e=.returned (.int .i64 (l.getD j 0))∧Rd w' R ad cap l (j+1)∧W.grownBy w' (some R)):=HN.out j;have HA:Hid (∀t R ad cap W,Rd W R ad cap l t->Calls Tryz.prog 39 #[.pointer (some ⟨R,0,none⟩)] W fun e w'=>e=.returned (.int .u64 (j9 l t))∧Rd w' R ad cap l (k9 l t)∧W.grownBy w' (some R)):=fun t R ad cap W h=>ue R cap ad l t W h
 have HE:Hid (∀v t R ad cap W,isU v->Rd W R ad cap l t->Calls Tryz.prog 40 #[.int .u64 v,.pointer (some ⟨R,0,none⟩)] W fun e w'=>e=.returned (.int .u64 (l8 v l t))∧Rd w' R ad cap l (qD l t)∧W.grownBy w' (some R)):=fun v t R ad cap W hv h=>zC v R cap ad l t W hv h
 have HP:Hid (∀v w,Calls Tryz.prog 75 #[.int .u64 v] w fun e w'=>e=.returned (.agg #[.int .i64 1,.int .u64 18446744073709551615,.int .u64 v])∧Below w.heap.size w w'):=fun v w=>pR v w
 have HaU:Hid (∀t,isU (j9 l t)):=rO l hl;have HnU:Hid (∀v t,isU v->isU (l8 v l t)):=fun v t hv=>xn hv l hl t
 have HB:Hid (∀t,0<=l.getD t 0∧l.getD t 0<=255):=ez hl;generalize l.getD j 0=x0 at*;by_cases c1:x0%16<3
 ·apply KdP.ex
  ·intro R cap ad w hR;have D:=DkS.new hR;go_enter Tryz.func137,Tryz.ntmps137;go_wp2_with fail;refine(HN0.out _ _ _ _ D.rd).mono ?_;rintro _ w1⟨rfl,r1,g1⟩;have D1:=D.draw r1 g1;obtain⟨yl,y0,y1,y2,f0,f1,f2⟩:=D1.bx;go_wp2_with fail;exact bodyPost_ret (gU Tryz.results137 rfl (D1.bx.sO _ _ _)) rfl ⟨rfl,D1.done _ _ _⟩
  unfold isU;omega
 rw[Int.not_lt]at c1;by_cases c2:x0%16<7
 ·skip;obtain⟨y1v,hy1v⟩:∃z,l.getD (j+1) 0=z:=⟨_,rfl⟩;have by1v:=HB.out (j+1);have N1o:=HN.out (j+1);rw[hy1v]at N1o by1v;obtain⟨by1v0,by1v1⟩:=by1v;have N1:Hid _:=N1o;clear N1o hy1v;clear HN HA HE HB HaU HnU hl;apply KdP.ex
  ·intro R cap ad w hR;have D:=DkS.new hR;go_enter Tryz.func137,Tryz.ntmps137;go_wp2_with fail;refine(HN0.out _ _ _ _ D.rd).mono ?_;rintro _ w1⟨rfl,r1,g1⟩;have D1:=D.draw r1 g1;obtain⟨yl,y0,y1,y2,f0,f1,f2⟩:=D1.bx;go_wp2_with fail;refine(N1.out _ _ _ _ D1.rd).mono ?_;rintro _ w2⟨rfl,r2,g2⟩;have D2:=D1.draw r2 g2;obtain⟨yl,y0,y1,y2,f0,f1,f2⟩:=D2.bx;go_wp2_with fail;refine(HP.out _ _).mono ?_;rintro _ w3⟨rfl,b3⟩;have D3:=D2.below b3;obtain⟨yl,y0,y1,y2,f0,f1,f2⟩:=D3.bx;go_wp2_with fail;exact bodyPost_ret (gU Tryz.results137 rfl (D3.bx.sO _ _ _)) rfl ⟨rfl,D3.done _ _ _⟩
  exact⟨by omega,by first|assumption|exact fT _ _ _|exact gn _|(unfold isU;omega),by first|assumption|exact fT _ _ _|exact gn _|(unfold isU;omega)⟩
 rw[Int.not_lt]at c2;by_cases c3:x0%16=7
 ·skip;obtain⟨a1v,ha1v⟩:∃z,j9 l (j+1)=z:=⟨_,rfl⟩;obtain⟨J1,hJ1⟩:∃z,k9 l (j+1)=z:=⟨_,rfl⟩;have ua1v:=HaU.out (j+1);have N1o:=HA.out (j+1);rw[ha1v,hJ1]at N1o;rw[ha1v]at ua1v;have N1:Hid _:=N1o;have va1v:=ua1v;obtain⟨ua1v0,ua1v1⟩:=va1v;clear N1o ha1v hJ1;clear HN HA HE HB HaU HnU hl;apply KdP.ex
  ·intro R cap ad w hR;have D:=DkS.new hR;go_enter Tryz.func137,Tryz.ntmps137;go_wp2_with fail;refine(HN0.out _ _ _ _ D.rd).mono ?_;rintro _ w1⟨rfl,r1,g1⟩;have D1:=D.draw r1 g1;obtain⟨yl,y0,y1,y2,f0,f1,f2⟩:=D1.bx;go_wp2_with fail;refine(N1.out _ _ _ _ D1.rd).mono ?_;rintro _ w2⟨rfl,r2,g2⟩;have D2:=D1.draw r2 g2;obtain⟨yl,y0,y1,y2,f0,f1,f2⟩:=D2.bx;go_wp2_with fail;refine(HP.out _ _).mono ?_;rintro _ w3⟨rfl,b3⟩;have D3:=D2.below b3;obtain⟨yl,y0,y1,y2,f0,f1,f2⟩:=D3.bx;go_wp2_with fail;exact bodyPost_ret (gU Tryz.results137 rfl (D3.bx.sO _ _ _)) rfl ⟨rfl,D3.done _ _ _⟩
  exact⟨by omega,by first|assumption|exact fT _ _ _|exact gn _|(unfold isU;omega),by first|assumption|exact fT _ _ _|exact gn _|(unfold isU;omega)⟩
 by_cases c4:x0%16=8
 ·skip;obtain⟨y1v,hy1v⟩:∃z,l.getD (j+1) 0=z:=⟨_,rfl⟩;have by1v:=HB.out (j+1);have N1o:=HN.out (j+1);rw[hy1v]at N1o by1v;obtain⟨by1v0,by1v1⟩:=by1v;have N1:Hid _:=N1o;clear N1o hy1v;obtain⟨q,hq⟩:∃q:Nat,y1v%5=(q:Int):=⟨(y1v%5).toNat,by omega⟩;have hq4:q<=4:=by omega
  have HL:Hid (∀w,Calls Tryz.prog 84 #[.int .i64 (y1v%5)] w fun e w'=>e=.returned (.int .u64 (low q:Nat))∧w'=w):=fun w=>by rw[hq];exact kF q w (by omega)
  have hlo:=lU (k:=q) (by omega);clear hq;generalize low q=lq at*;obtain⟨a2v,ha2v⟩:∃z,j9 l ((j+1)+1)=z:=⟨_,rfl⟩;obtain⟨J2,hJ2⟩:∃z,k9 l ((j+1)+1)=z:=⟨_,rfl⟩;have ua2v:=HaU.out ((j+1)+1);have N2o:=HA.out ((j+1)+1);rw[ha2v,hJ2]at N2o;rw[ha2v]at ua2v;have N2:Hid _:=N2o;have va2v:=ua2v;obtain⟨ua2v0,ua2v1⟩:=va2v;clear N2o ha2v hJ2;clear HN HA HE HB HaU HnU hl;apply KdP.ex
  ·intro R cap ad w hR;have D:=DkS.new hR;go_enter Tryz.func137,Tryz.ntmps137;go_wp2_with fail;refine(HN0.out _ _ _ _ D.rd).mono ?_;rintro _ w1⟨rfl,r1,g1⟩;have D1:=D.draw r1 g1;obtain⟨yl,y0,y1,y2,f0,f1,f2⟩:=D1.bx;go_wp2_with fail;refine(N1.out _ _ _ _ D1.rd).mono ?_;rintro _ w2⟨rfl,r2,g2⟩;have D2:=D1.draw r2 g2;obtain⟨yl,y0,y1,y2,f0,f1,f2⟩:=D2.bx;go_wp2_with fail;refine(HL.out _).mono ?_;rintro _ w3x⟨rfl,rfl⟩;go_wp2_with fail;refine(N2.out _ _ _ _ D2.rd).mono ?_;rintro _ w3⟨rfl,r3,g3⟩;have D3:=D2.draw r3 g3;obtain⟨yl,y0,y1,y2,f0,f1,f2⟩:=D3.bx;go_wp2_with fail;exact bodyPost_ret (gU Tryz.results137 rfl (D3.bx.sO _ _ _)) rfl ⟨rfl,D3.done _ _ _⟩
  exact⟨by omega,by first|assumption|exact fT _ _ _|exact gn _|(unfold isU;omega),by first|assumption|exact fT _ _ _|exact gn _|(unfold isU;omega)⟩
 by_cases c5:x0%16=9
 ·skip;obtain⟨y1v,hy1v⟩:∃z,l.getD (j+1) 0=z:=⟨_,rfl⟩;have by1v:=HB.out (j+1);have N1o:=HN.out (j+1);rw[hy1v]at N1o by1v;obtain⟨by1v0,by1v1⟩:=by1v;have N1:Hid _:=N1o;clear N1o hy1v;obtain⟨q,hq⟩:∃q:Nat,y1v%5=(q:Int):=⟨(y1v%5).toNat,by omega⟩;have hq4:q<=4:=by omega
  have HL:Hid (∀w,Calls Tryz.prog 84 #[.int .i64 (y1v%5)] w fun e w'=>e=.returned (.int .u64 (low q:Nat))∧w'=w):=fun w=>by rw[hq];exact kF q w (by omega)
  have hlo:=lU (k:=q) (by omega);clear hq;generalize low q=lq at*;obtain⟨y2v,hy2v⟩:∃z,l.getD ((j+1)+1) 0=z:=⟨_,rfl⟩;have by2v:=HB.out ((j+1)+1);have N2o:=HN.out ((j+1)+1);rw[hy2v]at N2o by2v;obtain⟨by2v0,by2v1⟩:=by2v;have N2:Hid _:=N2o;clear N2o hy2v;obtain⟨a3v,ha3v⟩:∃z,j9 l (((j+1)+1)+1)=z:=⟨_,rfl⟩;obtain⟨J3,hJ3⟩:∃z,k9 l (((j+1)+1)+1)=z:=⟨_,rfl⟩;have ua3v:=HaU.out (((j+1)+1)+1);have N3o:=HA.out (((j+1)+1)+1);rw[ha3v,hJ3]at N3o;rw[ha3v]at ua3v;have N3:Hid _:=N3o;have va3v:=ua3v;obtain⟨ua3v0,ua3v1⟩:=va3v;clear N3o ha3v hJ3;clear HN HA HE HB HaU HnU hl;apply KdP.ex
  ·intro R cap ad w hR;have D:=DkS.new hR;go_enter Tryz.func137,Tryz.ntmps137;go_wp2_with fail;refine(HN0.out _ _ _ _ D.rd).mono ?_;rintro _ w1⟨rfl,r1,g1⟩;have D1:=D.draw r1 g1;obtain⟨yl,y0,y1,y2,f0,f1,f2⟩:=D1.bx;go_wp2_with fail;refine(N1.out _ _ _ _ D1.rd).mono ?_;rintro _ w2⟨rfl,r2,g2⟩;have D2:=D1.draw r2 g2;obtain⟨yl,y0,y1,y2,f0,f1,f2⟩:=D2.bx;go_wp2_with fail;refine(HL.out _).mono ?_;rintro _ w3x⟨rfl,rfl⟩;go_wp2_with fail;refine(N2.out _ _ _ _ D2.rd).mono ?_;rintro _ w3⟨rfl,r3,g3⟩;have D3:=D2.draw r3 g3;obtain⟨yl,y0,y1,y2,f0,f1,f2⟩:=D3.bx;go_wp2_with fail;refine(N3.out _ _ _ _ D3.rd).mono ?_;rintro _ w4⟨rfl,r4,g4⟩;have D4:=D3.draw r4 g4;obtain⟨yl,y0,y1,y2,f0,f1,f2⟩:=D4.bx;go_wp2_with fail;exact bodyPost_ret (gU Tryz.results137 rfl (D4.bx.sO _ _ _)) rfl ⟨rfl,D4.done _ _ _⟩
  exact⟨by omega,by first|assumption|exact fT _ _ _|exact gn _|(unfold isU;omega),by first|assumption|exact fT _ _ _|exact gn _|(unfold isU;omega)⟩
 by_cases c6:x0%16=10
 ·skip;obtain⟨a1v,ha1v⟩:∃z,j9 l (j+1)=z:=⟨_,rfl⟩;obtain⟨J1,hJ1⟩:∃z,k9 l (j+1)=z:=⟨_,rfl⟩;have ua1v:=HaU.out (j+1);have N1o:=HA.out (j+1);rw[ha1v,hJ1]at N1o;rw[ha1v]at ua1v;have N1:Hid _:=N1o;have va1v:=ua1v;obtain⟨ua1v0,ua1v1⟩:=va1v;clear N1o ha1v hJ1;obtain⟨a2v,ha2v⟩:∃z,j9 l J1=z:=⟨_,rfl⟩;obtain⟨J2,hJ2⟩:∃z,k9 l J1=z:=⟨_,rfl⟩;have ua2v:=HaU.out J1;have N2o:=HA.out J1;rw[ha2v,hJ2]at N2o;rw[ha2v]at ua2v;have N2:Hid _:=N2o;have va2v:=ua2v;obtain⟨ua2v0,ua2v1⟩:=va2v;clear N2o ha2v hJ2;clear HN HA HE HB HaU HnU hl;apply KdP.ex
  ·intro R cap ad w hR;have D:=DkS.new hR;go_enter Tryz.func137,Tryz.ntmps137;go_wp2_with fail;refine(HN0.out _ _ _ _ D.rd).mono ?_;rintro _ w1⟨rfl,r1,g1⟩;have D1:=D.draw r1 g1;obtain⟨yl,y0,y1,y2,f0,f1,f2⟩:=D1.bx;go_wp2_with fail;refine(N1.out _ _ _ _ D1.rd).mono ?_;rintro _ w2⟨rfl,r2,g2⟩;have D2:=D1.draw r2 g2;obtain⟨yl,y0,y1,y2,f0,f1,f2⟩:=D2.bx;go_wp2_with fail;refine(N2.out _ _ _ _ D2.rd).mono ?_;rintro _ w3⟨rfl,r3,g3⟩;have D3:=D2.draw r3 g3;obtain⟨yl,y0,y1,y2,f0,f1,f2⟩:=D3.bx;go_wp2_with fail;exact bodyPost_ret (gU Tryz.results137 rfl (D3.bx.sO _ _ _)) rfl ⟨rfl,D3.done _ _ _⟩
  exact⟨by omega,by first|assumption|exact fT _ _ _|exact gn _|(unfold isU;omega),by first|assumption|exact fT _ _ _|exact gn _|(unfold isU;omega)⟩
 by_cases c7:x0%16<14
 ·skip;obtain⟨y1v,hy1v⟩:∃z,l.getD (j+1) 0=z:=⟨_,rfl⟩;have by1v:=HB.out (j+1);have N1o:=HN.out (j+1);rw[hy1v]at N1o by1v;obtain⟨by1v0,by1v1⟩:=by1v;have N1:Hid _:=N1o;clear N1o hy1v;obtain⟨y2v,hy2v⟩:∃z,l.getD ((j+1)+1) 0=z:=⟨_,rfl⟩;have by2v:=HB.out ((j+1)+1);have N2o:=HN.out ((j+1)+1);rw[hy2v]at N2o by2v;obtain⟨by2v0,by2v1⟩:=by2v;have N2:Hid _:=N2o;clear N2o hy2v;clear HN HA HE HB HaU HnU hl;apply KdP.ex
  ·intro R cap ad w hR;have D:=DkS.new hR;go_enter Tryz.func137,Tryz.ntmps137;go_wp2_with fail;refine(HN0.out _ _ _ _ D.rd).mono ?_;rintro _ w1⟨rfl,r1,g1⟩;have D1:=D.draw r1 g1;obtain⟨yl,y0,y1,y2,f0,f1,f2⟩:=D1.bx;go_wp2_with fail;refine(N1.out _ _ _ _ D1.rd).mono ?_;rintro _ w2⟨rfl,r2,g2⟩;have D2:=D1.draw r2 g2;obtain⟨yl,y0,y1,y2,f0,f1,f2⟩:=D2.bx;go_wp2_with fail;refine(N2.out _ _ _ _ D2.rd).mono ?_;rintro _ w3⟨rfl,r3,g3⟩;have D3:=D2.draw r3 g3;obtain⟨yl,y0,y1,y2,f0,f1,f2⟩:=D3.bx;go_wp2_with fail;exact bodyPost_ret (gU Tryz.results137 rfl (D3.bx.sO _ _ _)) rfl ⟨rfl,D3.done _ _ _⟩
  exact⟨by omega,by first|assumption|exact fT _ _ _|exact gn _|(unfold isU;omega),by first|assumption|exact fT _ _ _|exact gn _|(unfold isU;omega)⟩
 rw[Int.not_lt]at c7;by_cases c8:x0%16=14
 ·skip;obtain⟨a1v,ha1v⟩:∃z,j9 l (j+1)=z:=⟨_,rfl⟩;obtain⟨J1,hJ1⟩:∃z,k9 l (j+1)=z:=⟨_,rfl⟩;have ua1v:=HaU.out (j+1);have N1o:=HA.out (j+1);rw[ha1v,hJ1]at N1o;rw[ha1v]at ua1v;have N1:Hid _:=N1o;have va1v:=ua1v;obtain⟨ua1v0,ua1v1⟩:=va1v;clear N1o ha1v hJ1;obtain⟨a2v,ha2v⟩:∃z,l8 a1v l J1=z:=⟨_,rfl⟩;obtain⟨J2,hJ2⟩:∃z,qD l J1=z:=⟨_,rfl⟩;have ua2v:=HnU.out a1v J1 ua1v;have N2o:=fun R ad cap W h=>HE.out a1v J1 R ad cap W ua1v h
  rw[ha2v,hJ2]at N2o;rw[ha2v]at ua2v;have N2:Hid _:=N2o;have va2v:=ua2v;obtain⟨ua2v0,ua2v1⟩:=va2v;clear N2o ha2v hJ2;by_cases hlt:a2v<a1v
  ·skip;clear HN HA HE HB HaU HnU hl;apply KdP.ex
   ·intro R cap ad w hR;have D:=DkS.new hR;go_enter Tryz.func137,Tryz.ntmps137;go_wp2_with fail;refine(HN0.out _ _ _ _ D.rd).mono ?_;rintro _ w1⟨rfl,r1,g1⟩;have D1:=D.draw r1 g1;obtain⟨yl,y0,y1,y2,f0,f1,f2⟩:=D1.bx;go_wp2_with fail;refine(N1.out _ _ _ _ D1.rd).mono ?_;rintro _ w2⟨rfl,r2,g2⟩;have D2:=D1.draw r2 g2;obtain⟨yl,y0,y1,y2,f0,f1,f2⟩:=D2.bx;go_wp2_with fail;refine(N2.out _ _ _ _ D2.rd).mono ?_;rintro _ w3⟨rfl,r3,g3⟩;have D3:=D2.draw r3 g3;obtain⟨yl,y0,y1,y2,f0,f1,f2⟩:=D3.bx;go_wp2_with fail;exact bodyPost_ret (gU Tryz.results137 rfl (D3.bx.sO _ _ _)) rfl ⟨rfl,D3.done _ _ _⟩
   exact⟨by omega,by first|assumption|exact fT _ _ _|exact gn _|(unfold isU;omega),by first|assumption|exact fT _ _ _|exact gn _|(unfold isU;omega)⟩
  rw[Int.not_lt]at hlt;clear HN HA HE HB HaU HnU hl;apply KdP.ex
  ·intro R cap ad w hR;have D:=DkS.new hR;go_enter Tryz.func137,Tryz.ntmps137;go_wp2_with fail;refine(HN0.out _ _ _ _ D.rd).mono ?_;rintro _ w1⟨rfl,r1,g1⟩;have D1:=D.draw r1 g1;obtain⟨yl,y0,y1,y2,f0,f1,f2⟩:=D1.bx;go_wp2_with fail;refine(N1.out _ _ _ _ D1.rd).mono ?_;rintro _ w2⟨rfl,r2,g2⟩;have D2:=D1.draw r2 g2;obtain⟨yl,y0,y1,y2,f0,f1,f2⟩:=D2.bx;go_wp2_with fail;refine(N2.out _ _ _ _ D2.rd).mono ?_;rintro _ w3⟨rfl,r3,g3⟩;have D3:=D2.draw r3 g3;obtain⟨yl,y0,y1,y2,f0,f1,f2⟩:=D3.bx;go_wp2_with fail;exact bodyPost_ret (gU Tryz.results137 rfl (D3.bx.sO _ _ _)) rfl ⟨rfl,D3.done _ _ _⟩
  exact⟨by omega,by first|assumption|exact fT _ _ _|exact gn _|(unfold isU;omega),by first|assumption|exact fT _ _ _|exact gn _|(unfold isU;omega)⟩
 have c9:x0%16=15:=by omega
 obtain⟨a1v,ha1v⟩:∃z,j9 l (j+1)=z:=⟨_,rfl⟩;obtain⟨J1,hJ1⟩:∃z,k9 l (j+1)=z:=⟨_,rfl⟩;have ua1v:=HaU.out (j+1);have N1o:=HA.out (j+1);rw[ha1v,hJ1]at N1o;rw[ha1v]at ua1v;have N1:Hid _:=N1o;have va1v:=ua1v;obtain⟨ua1v0,ua1v1⟩:=va1v;clear N1o ha1v hJ1;obtain⟨a2v,ha2v⟩:∃z,l8 a1v l J1=z:=⟨_,rfl⟩;obtain⟨J2,hJ2⟩:∃z,qD l J1=z:=⟨_,rfl⟩;have ua2v:=HnU.out a1v J1 ua1v;have N2o:=fun R ad cap W h=>HE.out a1v J1 R ad cap W ua1v h
 rw[ha2v,hJ2]at N2o;rw[ha2v]at ua2v;have N2:Hid _:=N2o;have va2v:=ua2v;obtain⟨ua2v0,ua2v1⟩:=va2v;clear N2o ha2v hJ2;obtain⟨a3v,ha3v⟩:∃z,j9 l J2=z:=⟨_,rfl⟩;obtain⟨J3,hJ3⟩:∃z,k9 l J2=z:=⟨_,rfl⟩;have ua3v:=HaU.out J2;have N3o:=HA.out J2;rw[ha3v,hJ3]at N3o;rw[ha3v]at ua3v;have N3:Hid _:=N3o;have va3v:=ua3v;obtain⟨ua3v0,ua3v1⟩:=va3v;clear N3o ha3v hJ3;by_cases hlt:a3v<a1v
 ·skip;clear HN HA HE HB HaU HnU hl;apply KdP.ex
  ·intro R cap ad w hR;have D:=DkS.new hR;go_enter Tryz.func137,Tryz.ntmps137;go_wp2_with fail;refine(HN0.out _ _ _ _ D.rd).mono ?_;rintro _ w1⟨rfl,r1,g1⟩;have D1:=D.draw r1 g1;obtain⟨yl,y0,y1,y2,f0,f1,f2⟩:=D1.bx;go_wp2_with fail;refine(N1.out _ _ _ _ D1.rd).mono ?_;rintro _ w2⟨rfl,r2,g2⟩;have D2:=D1.draw r2 g2;obtain⟨yl,y0,y1,y2,f0,f1,f2⟩:=D2.bx;go_wp2_with fail;refine(N2.out _ _ _ _ D2.rd).mono ?_;rintro _ w3⟨rfl,r3,g3⟩;have D3:=D2.draw r3 g3;obtain⟨yl,y0,y1,y2,f0,f1,f2⟩:=D3.bx;go_wp2_with fail;refine(N3.out _ _ _ _ D3.rd).mono ?_;rintro _ w4⟨rfl,r4,g4⟩;have D4:=D3.draw r4 g4;obtain⟨yl,y0,y1,y2,f0,f1,f2⟩:=D4.bx;go_wp2_with fail;exact bodyPost_ret (gU Tryz.results137 rfl (D4.bx.sO _ _ _)) rfl ⟨rfl,D4.done _ _ _⟩
  exact⟨by omega,by first|assumption|exact fT _ _ _|exact gn _|(unfold isU;omega),by first|assumption|exact fT _ _ _|exact gn _|(unfold isU;omega)⟩
 rw[Int.not_lt]at hlt;clear HN HA HE HB HaU HnU hl;apply KdP.ex
 ·intro R cap ad w hR;have D:=DkS.new hR;go_enter Tryz.func137,Tryz.ntmps137;go_wp2_with fail;refine(HN0.out _ _ _ _ D.rd).mono ?_;rintro _ w1⟨rfl,r1,g1⟩;have D1:=D.draw r1 g1;obtain⟨yl,y0,y1,y2,f0,f1,f2⟩:=D1.bx;go_wp2_with fail;refine(N1.out _ _ _ _ D1.rd).mono ?_;rintro _ w2⟨rfl,r2,g2⟩;have D2:=D1.draw r2 g2;obtain⟨yl,y0,y1,y2,f0,f1,f2⟩:=D2.bx;go_wp2_with fail;refine(N2.out _ _ _ _ D2.rd).mono ?_;rintro _ w3⟨rfl,r3,g3⟩;have D3:=D2.draw r3 g3;obtain⟨yl,y0,y1,y2,f0,f1,f2⟩:=D3.bx;go_wp2_with fail;refine(N3.out _ _ _ _ D3.rd).mono ?_;rintro _ w4⟨rfl,r4,g4⟩;have D4:=D3.draw r4 g4;obtain⟨yl,y0,y1,y2,f0,f1,f2⟩:=D4.bx;go_wp2_with fail;exact bodyPost_ret (gU Tryz.results137 rfl (D4.bx.sO _ _ _)) rfl ⟨rfl,D4.done _ _ _⟩
 exact⟨by omega,by first|assumption|exact fT _ _ _|exact gn _|(unfold isU;omega),by first|assumption|exact fT _ _ _|exact gn _|(unfold isU;omega)⟩
end Go.Proofs.YtdihdapmphkhpaaGreat
