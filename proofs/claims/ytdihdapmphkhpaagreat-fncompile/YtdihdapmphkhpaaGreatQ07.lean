import Derived.Lib.Strings
import Derived.Lib.Slices
import Derived.Lib.Small
import Derived.Lib.Walk
import Derived.Lib.BitFns
import Derived.Test.YtdihdapmphkhpaaGreatQ06
set_option linter.all false
set_option maxRecDepth 200000
set_option maxHeartbeats 16000000
namespace Go.Proofs.YtdihdapmphkhpaaGreat
open Go.RowKit Go.Deep
structure WdS(w W:World)(v:Value)(P:List E):Prop where
 be:Below w.heap.size w W
 sz:w.heap.size+1<W.heap.size
 c:W.cell? ⟨w.heap.size+1,0,none⟩=some v
 f:W.frozen? ⟨w.heap.size+1,0,none⟩=false
 c0:W.cell? ⟨w.heap.size,0,none⟩=some (.slice none 0 0)
 f0:W.frozen? ⟨w.heap.size,0,none⟩=false
 own:∃rv lo hi,PsD W (w.heap.size+2) v P rv lo hi
theorem WdS.push{w W W9 W1:World}{v v':Value}{P:List E}{e:E}{gg cp:Nat}{o:Obj}(h:WdS w W v P)(h9:Below W.heap.size W W9)(hv:RsJ W9 W.heap.size W9.heap.size v' e.rules){rv:Nat->Value}{lo hi:Nat->Nat}(ho:PsD W (w.heap.size+2) v P rv lo hi)
 (hown:W1.ownsRow (w.heap.size+2) 53 3 (.slice (some ⟨gg,0,none⟩) (P.length+1) cp) (P.length+1) (jB P rv++mI e v'))(hg:(W9.alloc o).grownBy W1 v.ownBlock):
 WdS w (W1.setCell ⟨w.heap.size+1,0,none⟩ (.slice (some ⟨gg,0,none⟩) (P.length+1) cp)) (.slice (some ⟨gg,0,none⟩) (P.length+1) cp) (P++[e]):=by
 have hge:∀k,v.ownBlock=some k->w.heap.size+2<=k:=fun k hk=>(ho.row.lt k hk).1
 have hsz:=h.sz
 have b1:Below (w.heap.size+2) W (W9.alloc o):=(h9.mono (by omega)).alloc (by have:=h9.size;omega) o
 have b2:Below (w.heap.size+2) W W1:=b1.grown hg (by have:=h9.size;simp;omega) hge
 have e1:∀k,k<w.heap.size+2->W1.cell? ⟨k,0,none⟩=W.cell? ⟨k,0,none⟩:=fun k hk=>b2.cell (p:=⟨k,0,none⟩) hk
 have e2:∀k,k<w.heap.size+2->W1.frozen? ⟨k,0,none⟩=W.frozen? ⟨k,0,none⟩:=fun k hk=>b2.frozen (p:=⟨k,0,none⟩) hk
 have hn:=ho.next (R:=0) (by omega) (fJ h9) (by omega) hv hown hg
 have hset:=fG (ah W1 (some (w.heap.size+1))) 0 (.slice (some ⟨gg,0,none⟩) (P.length+1) cp)
 have hs1:w.heap.size+1<W1.heap.size:=an hsz b2.size
 obtain⟨e5,e6⟩:=eB (g:=w.heap.size) (o:=0) hset (by omega) (by simp)
 refine⟨((h.be.trans (b2.mono (by omega))).setCell (p:=⟨w.heap.size+1,0,none⟩) (by show _<=w.heap.size+1;omega) _),by simpa[World.setCell]using hs1,aG _ _ _ ((e1 _ (by omega)).trans h.c),?_,e5.trans ((e1 _ (by omega)).trans h.c0),e6.trans ((e2 _ (by omega)).trans h.f0),_,_,_,hn.far (by simp) (fun k hk hs=>aE W1 ⟨w.heap.size+1,0,none⟩ _ k (fun e=>by simp at e;omega))⟩
 have hf:=(e2 (w.heap.size+1) (by omega)).trans h.f
 simpa using hf
theorem WdS.fin{w W:World}{v:Value}{P:List E}(h:WdS w W v P)(u:Value):∃rv lo hi,PsD (W.setCell ⟨w.heap.size,0,none⟩ u) w.heap.size v P rv lo hi∧Below w.heap.size w (W.setCell ⟨w.heap.size,0,none⟩ u):=by
 obtain⟨rv,lo,hi,ho⟩:=h.own;have h2:=(ho.far (w1:=W.setCell ⟨w.heap.size,0,none⟩ u) (by simp) (fun k hk hs=>aE W ⟨w.heap.size,0,none⟩ _ k (fun e=>by simp at e;omega)));exact⟨rv,lo,hi,⟨hU h2.row (by omega),h2.own,fun i hi'=>⟨by have:=(h2.lt i hi').1;omega,(h2.lt i hi').2⟩,h2.inc⟩,h.be.setCell (p:=⟨w.heap.size,0,none⟩) (ae _) _⟩
theorem Aw(n m:Nat)(hn:n<=251)(hm:0<m)(hm2:m<=201)(w:World):
 Calls Tryz.prog 35 #[.int .i64 (n:Int),.int .i64 (m:Int)] w fun e w'=>∃v rv lo hi,e=.returned (.agg #[v])∧PsD w' w.heap.size v (j6 n m) rv lo hi∧Below w.heap.size w w':=by
 obtain⟨i1,hi1,hy0,hy1,hy2⟩:=info_parts pt;obtain⟨i2,hi2,hz0,hz1,hz2⟩:=info_parts nD;have D0:WdS w ((w.alloc (.cells #[.slice none 0 0] 25)).alloc (.cells #[.slice none 0 0] 25)) (.slice none 0 0) (j6 0 m):=by
  have q1:=gw w (.slice none 0 0) 25 _ rfl;have e1:(w.alloc (.cells #[.slice none 0 0] 25)).heap.size=w.heap.size+1:=by simp
  have a1:=fu (ah (w.alloc (.cells #[.slice none 0 0] 25)) none) (.cells #[.slice none 0 0] 25);obtain⟨c3,c4⟩:=eB (g:=w.heap.size) (o:=0) a1 (by omega) (by simp);have q2:=gw (w.alloc (.cells #[.slice none 0 0] 25)) (.slice none 0 0) 25 _ rfl;rw[e1]at q2;exact⟨((af _ _).alloc (ae _) _).alloc (by simp) _,by simp,q2.1,q2.2,c3.trans q1.1,c4.trans q1.2,_,_,_,PsD.nil _ _⟩
 go_enter Tryz.func35,Tryz.ntmps35;go_wp2_with fail;generalize((w.alloc (.cells #[.slice none 0 0] 25)).alloc (.cells #[.slice none 0 0] 25))=W0 at*;go_loopw [6](fun u wr=>∃(i:Nat)(v:Value),u=.int .i64 (i:Int)∧i<=n∧WdS w wr v (j6 i m))(fun u _=>n-(intOf u).toNat)
 case atStart=>exact⟨0,_,rfl,by omega,D0⟩
 case round=>
  obtain⟨i,v,rfl,hin,D⟩:=hrel;clear D0;obtain⟨wo,hwo⟩:∃wo,wo=wr:=⟨_,rfl⟩;subst hwo;by_cases hlt:i<n
  ·have hlt':(i:Int)<(n:Int):=by omega
   have u2:IntKind.u32.wrap ((i:Int)*2)=(i:Int)*2:=by rw[IntKind.wrap_u32];omega
   have u2':(i:Int)*2%4294967296=(i:Int)*2:=by omega
   have D1:WiS wo (wo.alloc (.cells #[.int .u32 5,.int .u32 ((i:Int)*2),.slice none 0 0] 53)) wo.heap.size ((i:Int)*2) (.slice none 0 0) ((List.range 0).map (nH i)):=
    ⟨(af _ _).alloc (ae _) _,rfl,fY.new _ _ _ _ _,_,RsE.nil _ _⟩
   have hG0:wo.heap.size=wo.heap.size:=rfl;go_upto_region 7 with fail
   generalize hWe:(wo.alloc (.cells #[.int .u32 5,.int .u32 ((i:Int)*2),.slice none 0 0] 53))=We at*;clear hWe;obtain⟨G,hG⟩:∃G,wo.heap.size=G:=⟨_,rfl⟩;rw[hG]at D1;simp only[hG];clear hG0;have HDo:Hid (WdS w wo v (j6 i m)):=D;have HhG:Hid (wo.heap.size=G):=hG;clear D hG;go_loopw [8](fun u W=>∃(t:Nat)(vr:Value),u=.int .i64 (t:Int)∧t<=m∧WiS wo W G ((i:Int)*2) vr ((List.range t).map (nH i)))(fun u _=>m-(intOf u).toNat)
   case atStart=>exact⟨0,_,rfl,by omega,D1⟩
   case round=>
    obtain⟨t,vr,rfl,htm,S⟩:=hrel;clear D1;by_cases htl:t<m
    ·have htl':(t:Int)<(m:Int):=by omega
     obtain⟨vs,ho⟩:=S.own;obtain⟨av,cv,ev,hcv⟩:=ho.form;rw[aX,List.length_range]at ev hcv;subst ev;have hlen:((List.range t).map (nH i)).length=t:=by simp
     go_wp2_with fail;refine(pR _ _).mono ?_;rintro _ w3⟨rfl,b3⟩;go_wp2_with fail;refine(pR _ _).mono ?_;rintro _ w4⟨rfl,b4⟩;go_wp2_with fail;refine(pR _ _).mono ?_;rintro _ w5⟨rfl,b5⟩;have hbw:=(b3.trans (b4.mono b3.size)).trans (b5.mono (aW b3.size b4.size));have S5:=S.below hbw;have ho5:=ho.below (by omega) hbw;clear b3 b4 b5;obtain⟨o6,ho6⟩:∃o:Obj,o=.cells #[.int .i64 1,.int .u64 18446744073709551615,.int .u64 ((t:Int)*3),.int .i64 1,.int .u64 18446744073709551615,.int .u64 ((t:Int)*3+4294967296),.int .i64 2,.int .u64 ((t:Int)*3),.int .u64 ((t:Int)*3+2),.int .i64 0,.int .u64 0,.int .u64 0,.int .i64 0,.int .u64 0,.int .u64 0,.int .i64 1,.int .u64 18446744073709551615,.int .u64 (i:Int)] 84:=⟨_,rfl⟩;have oc:fO (w5.alloc o6) w5.heap.size (.slice (some ⟨w5.heap.size,0,none⟩) 6 6) (nH i t):=by
      have:=World.ownsRow_lit (base:=w5.heap.size) (e:=84) (size:=3) w5 #[.int .i64 1,.int .u64 18446744073709551615,.int .u64 ((t:Int)*3),.int .i64 1,.int .u64 18446744073709551615,.int .u64 ((t:Int)*3+4294967296),.int .i64 2,.int .u64 ((t:Int)*3),.int .u64 ((t:Int)*3+2),.int .i64 0,.int .u64 0,.int .u64 0,.int .i64 0,.int .u64 0,.int .u64 0,.int .i64 1,.int .u64 18446744073709551615,.int .u64 (i:Int)] 6 (ae _) (by decide) rfl;rw[ho6];simpa[fO,nH,je,cKd,ptK,fQ]using this
     have Hho6:Hid _:=ho6;clear ho6;have b6:Below wr.heap.size wr (w5.alloc o6):=hbw.alloc hbw.size o6;have S6:=S.below b6;have ho7:=ho.below (by omega) b6;go_upto_region 11 with fail
     rw[<-Hho6.out];have oc':fO (w5.alloc o6) wr.heap.size (.slice (some ⟨w5.heap.size,0,none⟩) 6 6) (nH i t):=hU oc hbw.size;clear oc Hho6 hbw S5 ho5;generalize w5.alloc o6=w6 at*;generalize w5.heap.size=gC at*;have hbm:t+1<=maxLen:=by unfold maxLen;omega
     have hbd:(t+1)*24<=140737488355328:=by omega
     obtain⟨_,c0,c1,c2,f0,f1,f2⟩:=S6.box;have hG6:=S6.box.lt;have b7:Below w6.heap.size w6 (w6.alloc (.cells #[.slice (some ⟨gC,0,none⟩) 6 6] 57)):=(af _ _).alloc (ae _) _;have hrow:=(ho7.below (by omega) b7).row;rw[hlen]at hrow;go_wp2_with(at_builtin;refine wpList_append_lies _ rfl (.tmp 44) (.tmp 47) 51 rfl (G+1) 57 i2 _ 1 24 Tryz.underlying51 hi2 hz0 hz1 hz2 rfl (by decide) _ t _ rfl hrow ⟨w6.heap.size,0,none⟩ 1 1 [.slice (some ⟨gC,0,none⟩) 6 6] rfl rfl (World.news_of_block (t:=57) (fr:=(0,0)) (heap_alloc_new w6 _)) (by simp[Value.oneCell']) (by omega) hbm hbd (by simp;omega) (w6.heap.size+1) (by simp) ?_);intro g' cp' w9 ow gr hat _;have S9:=WiS.push (o:=.cells #[.slice (some ⟨gC,0,none⟩) 6 6] 57) S b6 oc' rfl ho (by rw[hlen];exact ow) gr (by simpa using hat);rw[hlen,<-Ib]at S9;have hge:∀k,(Value.slice av t cv).ownBlock=some k->G+1<=k:=fun k hk=>by have:=(hrow.lt k hk).1;omega
     have b8:Below (G+1) w6 w9:=((af _ _).alloc (by omega) _).grown gr (by simp;omega) hge;have c2':=(b8.cell (p:=⟨G,2,none⟩) (by show G<G+1;omega)).trans c2;have f2':=(b8.frozen (p:=⟨G,2,none⟩) (by show G<G+1;omega)).trans f2;clear ow gr hat hge b8 b7 hrow ho7 S6 S ho oc' b6 c0 c1 c2 f0 f1 f2;go_wp2;go_roundw
     case rel=>exact⟨t+1,_,by go_num,by omega,S9⟩
     case measure=>simp[intOf];omega
    obtain rfl:t=m:=by omega
    obtain⟨vs,ho⟩:=S.own;obtain⟨av,cv,ev,hcv⟩:=ho.form;rw[aX,List.length_range]at ev hcv;subst ev;have D:=HDo.out;have hG:=HhG.out;obtain⟨rv,lo,hi,hp⟩:=D.own;obtain⟨ap,cpp,ep,hcp,_⟩:=hp.form;have hpl:(j6 i t).length=i:=by simp[j6]
    rw[hpl]at ep hcp;subst ep;have be:Below wo.heap.size wo wr:=by rw[hG];exact S.be
    have hne:(List.range t).map (nH i)≠[]:=by intro e;have:=congrArg List.length e;simp at this;omega
    have hI:RsJ wr wo.heap.size wr.heap.size (.slice av t cv) (vg t i).rules:=ho.rsi hne (by omega);have hsz:=D.sz;have c5:=(be.cell (p:=⟨w.heap.size+1,0,none⟩) hsz).trans D.c;obtain⟨_,c0,c1,c2,f0,f1,f2⟩:=S.box;have hGr:=S.box.lt;have hbm:i+1<=maxLen:=by unfold maxLen;omega
    have hbd:(i+1)*32<=140737488355328:=by omega
    have hrow:wr.ownsRow (w.heap.size+2) 53 3 (.slice ap i cpp) i (jB (j6 i t) rv):=by
     have:=aA hp.row (fJ (r:=none) be) (by
      cases(Value.slice ap i cpp).ownBlock with
      |none=>exact .inl rfl
      |some q=>exact .inr (by simp))
     rwa [hpl]at this
    have hrow2:(wr.alloc (.cells #[.int .u32 5,.int .u32 ((i:Int)*2),.slice av t cv] 53)).ownsRow (w.heap.size+2) 53 3 (.slice ap i cpp) i (jB (j6 i t) rv):=hrow.alloc _;have hsr:w.heap.size+2<=wr.heap.size:=by have:=be.size;omega
    clear hrow HDo HhG;go_wp2_with(at_builtin;refine wpList_append_lies _ rfl (.tmp 51) (.tmp 53) 23 rfl (w.heap.size+2) 53 i1 _ 3 32 Tryz.underlying23 hi1 hy0 hy1 hy2 rfl (by decide) _ i _ rfl hrow2 ⟨wr.heap.size,0,none⟩ 1 1 [.int .u32 5,.int .u32 ((i:Int)*2),.slice av t cv] rfl rfl (World.news_of_block (t:=53) (fr:=(0,0)) (heap_alloc_new wr _)) (by simp[Value.oneCell']) (by omega) hbm hbd (by simp;omega) (wr.heap.size+1) (by simp) ?_);intro g' cp' w9 ow gr hat _;have D9:=WdS.push (o:=.cells #[.int .u32 5,.int .u32 ((i:Int)*2),.slice av t cv] 53) (e:=vg t i) D be hI hp (by rw[hpl];exact ow) gr;rw[hpl,<-Hu]at D9;have hge:∀k,(Value.slice ap i cpp).ownBlock=some k->w.heap.size+2<=k:=fun k hk=>(hrow2.lt k hk).1
    have b8:Below (w.heap.size+2) wr w9:=((af _ _).alloc (by omega) _).grown gr (by simp;omega) hge;have c6:=(b8.cell (p:=⟨w.heap.size+1,0,none⟩) (by show w.heap.size+1<_;omega)).trans c5;have f6:=(b8.frozen (p:=⟨w.heap.size+1,0,none⟩) (by show w.heap.size+1<_;omega)).trans ((be.frozen (p:=⟨w.heap.size+1,0,none⟩) hsz).trans D.f);clear ow gr hat hge b8 hrow2 S ho c0 c1 c2 f0 f1 f2 c5 hI be hp D;go_wp2;go_roundw
    case rel=>exact⟨i+1,_,by go_num,by omega,D9⟩
    case measure=>simp[intOf];omega
  obtain rfl:i=n:=by omega
  obtain⟨rv,lo,hi,hp⟩:=D.own;obtain⟨ap,cpp,ep,hcp,_⟩:=hp.form;have hpl:(j6 i m).length=i:=by simp[j6]
  rw[hpl]at ep hcp;subst ep;have HF':Hid _:=D.fin (.slice ap i cpp);have c0:=D.c;have z0:=D.c0;have zf:=D.f0;clear D hp;go_wp2;refine bodyPost_ret (v:=.agg #[.slice ap i cpp]) (by simp[results,Tryz.results35,go_sem,z0]) rfl ?_;obtain⟨rv',lo',hi',f1,f2⟩:=HF'.out;first
   |exact⟨_,_,_,_,rfl,f1,f2⟩
   |exact⟨_,rfl,⟨_,_,_,f1⟩,f2⟩
end Go.Proofs.YtdihdapmphkhpaaGreat
namespace Go.Proofs.YtdihdapmphkhpaaGreat
open Go.RowKit
variable{P:Prop}{a k:Nat}{r:Bool}
theorem qj(ha:a<18446744073709551616)(hk:k<64):bits .and .u64 (a:Int) (((low k:Nat):Int)+1)=((a&&&2^k:Nat):Int):=by
 have e:((low k:Nat):Int)+1=((2^k:Nat):Int):=by have:=iM k;omega
 rw[e];exact u64_and a _ ha (cU (a:=2) (by omega) hk)
theorem yz(ha:a<18446744073709551616)(hk:k<64)(h:a.testBit k=true):¬bits .and .u64 (a:Int) (((low k:Nat):Int)+1)=0:=by
 rw[qj ha hk];intro e;have:=(CS a k).1 (by omega);rw[h]at this;exact absurd this (by decide)
theorem BM(ha:a<18446744073709551616)(hk:k<64)(h:a.testBit k=false):bits .and .u64 (a:Int) (((low k:Nat):Int)+1)=0:=by
 rw[qj ha hk,(CS a k).2 h];rfl
theorem zO(hk:k<64):low k+1<=9223372036854775808:=by
 rw[iM];exact dT (n:=2) (by omega) (show k<=63 by omega)
theorem wh (c : K) (f : Nat) (w : World) (ho : c.ok) (hv : eI c = true) (hf : f < 18446744073709551616) :
    Calls Tryz.prog 140 #[fC c, .int .u64 (f : Int)] w fun e w' => ∃ (v : Nat) (s : Bool), e = .returned (.tuple #[.int .u64 (v : Int), .bool s]) ∧ nP c f v s ∧ v < 18446744073709551616 ∧ Below w.heap.size w w' := by
  have HC : Hid (∀ w, Calls Tryz.prog 80 #[fC c, .int .u64 (f : Int)] w fun e w' => e = .returned (.bool (eX c f)) ∧ Below w.heap.size w w') := fun w => tD c f w ho hf
  have HV : Hid (eI c = true) := hv
  obtain ⟨kind, a, b⟩ := c
  obtain ⟨⟨k0, k1⟩, ha, hb⟩ := ho
  simp only at k0 k1 ha hb
  obtain ⟨H, eH⟩ : ∃ H, eX ⟨kind, a, b⟩ f = H := ⟨_, rfl⟩
  have HH : Hid (eX ⟨kind, a, b⟩ f = H) := eH
  rw [eH] at HC
  clear eH hv
  simp only [fC] at HC ⊢
  have hf' : (f : Int) <= 18446744073709551615 := by omega
  go_enter Tryz.func140, Tryz.ntmps140
  go_wp2_with fail
  have X := gu.new w 84 (.int .i64 kind) (.int .u64 (a : Int)) (.int .u64 (b : Int))
  have B0 : Below w.heap.size w (w.alloc (.cells #[.int .i64 kind, .int .u64 (a : Int), .int .u64 (b : Int)] 84)) := (af _ _).alloc (ae _) _
  generalize w.alloc (.cells #[.int .i64 kind, .int .u64 (a : Int), .int .u64 (b : Int)] 84) = W at *
  refine (HC.out _).mono ?_
  rintro e w1 ⟨rfl, hb1⟩
  obtain ⟨_, x0, x1, x2, _, _, _⟩ := X.ey hb1
  have B1 := B0.trans (hb1.mono B0.size)
  clear X hb1 B0 HC
  cases H with
  | false =>
    go_wp2
    go_ret2
    exact ⟨f, true, rfl, ES hf HH.out, hf, B1⟩
  | true =>
    by_cases h0 : kind = 0
    · subst h0
      have h00 : a = 0 ∧ b = 0 := by have := HV.out; simp [eI] at this; exact this
      obtain ⟨rfl, rfl⟩ := h00
      go_wp2
      go_ret2
      exact ⟨0, false, rfl, Hf, by omega, B1⟩
    · by_cases h2 : kind = 2
      · subst h2
        have HO : Hid _ := Ej hf hb HH.out
        by_cases hmax : b = 18446744073709551615
        · have hmax' : (b : Int) = 18446744073709551615 := by omega
          go_wp2
          go_ret2
          refine ⟨0, false, rfl, ?_, by omega, B1⟩
          have := HO.out
          simpa [hmax, nP] using this
        · have hmax' : ((b : Int) == 18446744073709551615) = false := by rw [beq_eq_false_iff_ne]; omega
          have HM : Hid (¬ b = 18446744073709551615) := hmax
          have hb' : (b : Int) < 18446744073709551615 := by omega
          clear hmax
          go_wp2_with fail
          go_wp2
          go_ret2
          refine ⟨b + 1, true, ?_, ?_, by omega, B1⟩
          · simp
          · have := HO.out
            simpa [HM.out, nP] using this
      · have h1 : kind = 1 := by
          have := HV.out
          simp [eI, h0, h2] at this
          exact this.1
        subst h1
        go_wp2_with fail
        go_loop [6] (fun i => ∃ k : Nat, k <= 64 ∧ i = .int .i64 k ∧ Hid (∀ j, j < k -> a.testBit j = false)) (fun i => 64 - (intOf i).toNat)
        case atStart => exact ⟨0, by omega, rfl, fun j hj => by omega⟩
        case round =>
          obtain ⟨k, hk, rfl, HJ⟩ := hrel
          by_cases hlt : k < 64
          · have hl := zO hlt
            have hl' : ((low k : Nat) : Int) + 1 <= 9223372036854775808 := by omega
            have HL : Hid (∀ w, Calls Tryz.prog 84 #[.int .i64 (k : Int)] w fun e w' => e = .returned (.int .u64 (low k : Nat)) ∧ w' = w) := fun w => kF k w (by omega)
            have hlt' : (k : Int) < 64 := by omega
            cases hbit : a.testBit k with
            | false =>
              have e1 := BM ha hlt hbit
              have HJ' : Hid (∀ j, j < k + 1 -> a.testBit j = false) := fun j hj => by
                by_cases hjk : j = k
                · subst hjk; exact hbit
                · exact HJ.out j (by omega)
              clear HJ hbit
              generalize low k = L at *
              go_wp2_with fail
              refine (HL.out _).mono ?_
              rintro e w2 ⟨rfl, rfl⟩
              go_wp2
              go_round
              case rel => exact ⟨k + 1, by omega, by go_num, HJ'⟩
              case measure => simp [intOf]; omega
            | true =>
              have e1 : (bits .and .u64 (a : Int) (((low k : Nat) : Int) + 1) != 0) = true := by rw [bne_iff_ne]; exact yz ha hlt hbit
              have HO : Hid _ := EU hf ha hlt HH.out hbit HJ.out
              have HB : Hid (bits .or .u64 (f : Int) ((low k : Nat) : Int) = ((f ||| low k : Nat) : Int)) := u64_or f (low k) hf (by omega)
              have hor := zu hf (show low k < 18446744073709551616 by omega)
              clear HJ hbit
              by_cases hmax : f ||| low k = 18446744073709551615
              · have e2 : bits .or .u64 (f : Int) ((low k : Nat) : Int) = 18446744073709551615 := by rw [HB.out, hmax]; rfl
                have HO' : Hid (nP ⟨1, a, b⟩ f 0 false) := by
                  have := HO.out
                  unfold Hid
                  simpa [hmax, nP] using this
                clear HO HB hor hmax
                generalize low k = L at *
                go_wp2_with fail
                refine (HL.out _).mono ?_
                rintro e w2 ⟨rfl, rfl⟩
                go_wp2_with fail
                refine (HL.out _).mono ?_
                rintro e w2 ⟨rfl, rfl⟩
                go_wp2
                go_ret2
                exact ⟨0, false, rfl, HO'.out, by omega, B1⟩
              · have HO' : Hid (nP ⟨1, a, b⟩ f ((f ||| low k) + 1) true) := by
                  have := HO.out
                  unfold Hid
                  simpa [hmax, nP] using this
                have e2 : bits .or .u64 (f : Int) ((low k : Nat) : Int) = ((f ||| low k : Nat) : Int) := HB.out
                have hm' : (((f ||| low k : Nat) : Int) == 18446744073709551615) = false := by rw [beq_eq_false_iff_ne]; omega
                have hm2 : ((f ||| low k : Nat) : Int) + 1 <= 18446744073709551615 := by omega
                clear HO HB hmax
                generalize f ||| low k = F at *
                generalize low k = L at *
                go_wp2_with fail
                refine (HL.out _).mono ?_
                rintro e w2 ⟨rfl, rfl⟩
                go_wp2_with fail
                refine (HL.out _).mono ?_
                rintro e w2 ⟨rfl, rfl⟩
                go_wp2
                go_ret2
                refine ⟨F + 1, true, ?_, HO'.out, by omega, B1⟩
                simp
          · have hk' : k = 64 := by omega
            subst hk'
            have h0 : a = 0 := ya ha HJ.out
            have HO : Hid (nP ⟨1, a, b⟩ f 0 false) := by
              have h1 := HH.out
              subst h0
              exact FQ h1
            clear h0
            go_wp2
            exact bodyPost_ret (v := .tuple #[.int .u64 0, .bool false]) (by simp [results, Tryz.results140, go_sem]) rfl ⟨0, .inl ⟨rfl, HO.out, by omega, B1⟩⟩
theorem yE(H:Hid (r=true↔P))(h:P):r=true:=H.out.2 h
theorem vL(H:Hid (r=true↔P))(h:¬P):r=false:=by
 cases r with
 |false=>rfl
 |true=>exact absurd (H.out.1 rfl) h
theorem dec_eq(H:Hid (r=true↔P)){s:Bool}(h:s=true↔P):r=s:=by
 rw[cB,H.out,h]
theorem sw{s:Bool}(h:r=s):Ending.returned (.bool s)=Ending.returned (.bool r):=by rw[h]
theorem yf (c d : K) (r : Bool) (w : World) (ho : c.ok) (hv : eI c = true) (ho' : d.ok) (hv' : eI d = true) (H : Hid (r = true ↔ jY c d)) :
    Calls Tryz.prog 120 #[fC c, fC d] w fun e w' => e = .returned (.bool r) ∧ Below w.heap.size w w' := by
  have HC : Hid (∀ w, Calls Tryz.prog 83 #[fC c] w fun e w' => e = .returned (mS c) ∧ Below w.heap.size w w') := fun w => mJ c w ho hv
  have HD : Hid (∀ f : Nat, f < 18446744073709551616 -> ∀ w, Calls Tryz.prog 140 #[fC d, .int .u64 (f : Int)] w fun e w' => ∃ (v : Nat) (s : Bool), e = .returned (.tuple #[.int .u64 (v : Int), .bool s]) ∧ nP d f v s ∧ v < 18446744073709551616 ∧ Below w.heap.size w w') := fun f hf w => wh d f w ho' hv' hf
  have HW : Hid (∀ lo hi v s, fB c = some (lo, hi) -> nP d lo v s -> ((!s || decide (hi < v)) = true ↔ jY c d)) := fun lo hi v s h h1 => BJ ho hv h h1
  have HB : Hid (∀ lo hi, fB c = some (lo, hi) -> lo <= hi ∧ hi < 18446744073709551616) := fun lo hi h => me ho hv h
  have HV : Hid (eI c = true) := hv
  have HV' : Hid (eI d = true) := hv'
  obtain ⟨ck, ca, cb⟩ := c
  obtain ⟨dk, da, db⟩ := d
  obtain ⟨_, hca, hcb⟩ := ho
  obtain ⟨_, hda, hdb⟩ := ho'
  simp only at hca hcb hda hdb
  clear hv hv'
  obtain ⟨P, hP⟩ : ∃ P, jY ⟨ck, ca, cb⟩ ⟨dk, da, db⟩ = P := ⟨_, rfl⟩
  have HP : Hid (jY ⟨ck, ca, cb⟩ ⟨dk, da, db⟩ = P) := hP
  rw [hP] at HW H
  clear hP
  simp only [fC] at HC HD ⊢
  go_enter Tryz.func120, Tryz.ntmps120
  go_wp2_with fail
  have X := (gu.new w 84 (.int .i64 ck) (.int .u64 (ca : Int)) (.int .u64 (cb : Int))).alloc (.cells #[.int .i64 dk, .int .u64 (da : Int), .int .u64 (db : Int)] 84)
  have Y := gu.new (w.alloc (.cells #[.int .i64 ck, .int .u64 (ca : Int), .int .u64 (cb : Int)] 84)) 84 (.int .i64 dk) (.int .u64 (da : Int)) (.int .u64 (db : Int))
  have hsz : (w.alloc (.cells #[.int .i64 ck, .int .u64 (ca : Int), .int .u64 (cb : Int)] 84)).heap.size = w.heap.size + 1 := by simp
  have B0 : Below w.heap.size w ((w.alloc (.cells #[.int .i64 ck, .int .u64 (ca : Int), .int .u64 (cb : Int)] 84)).alloc (.cells #[.int .i64 dk, .int .u64 (da : Int), .int .u64 (db : Int)] 84)) := ((af _ _).alloc (ae _) _).alloc (by simp) _
  rw [hsz] at Y
  generalize (w.alloc (.cells #[.int .i64 ck, .int .u64 (ca : Int), .int .u64 (cb : Int)] 84)).alloc (.cells #[.int .i64 dk, .int .u64 (da : Int), .int .u64 (db : Int)] 84) = W at *
  clear hsz
  refine (HC.out _).mono ?_
  rintro e w1 ⟨rfl, hb1⟩
  have X1 := X.ey hb1
  have Y1 := Y.ey hb1
  have B1 := B0.trans (hb1.mono B0.size)
  clear X Y hb1 B0 HC
  obtain ⟨_, x0, x1, x2, _, _, _⟩ := X1
  obtain ⟨_, y0, y1, y2, _, _, _⟩ := Y1
  cases hb : fB ⟨ck, ca, cb⟩ with
  | some q =>
    obtain ⟨lo, hi⟩ := q
    have HE : Hid (mS ⟨ck, ca, cb⟩ = .tuple #[.int .u64 (lo : Int), .int .u64 (hi : Int), .bool true]) := by unfold Hid mS; rw [hb]
    rw [HE.out]
    obtain ⟨hle, hh⟩ := HB.out lo hi hb
    have HW' : Hid (∀ v s, nP ⟨dk, da, db⟩ lo v s -> ((!s || decide (hi < v)) = true ↔ P)) := fun v s => HW.out lo hi v s hb
    clear hb HE HB HW HV HV' HP
    go_wp2_with fail
    refine (HD.out lo (by omega) _).mono ?_
    rintro e w2 ⟨v, s, rfl, hO, hvl, hb2⟩
    have HR : Hid _ := HW'.out v s hO
    have B2 := B1.trans (hb2.mono B1.size)
    clear hO HW' HD
    cases s with
    | false =>
      go_wp2
      go_ret
      exact ⟨sw (dec_eq H HR.out), B2⟩
    | true =>
      by_cases hlt : hi < v
      · have hlt' : (hi : Int) < (v : Int) := by omega
        go_wp2
        go_ret
        refine ⟨sw (yE H ?_), B2⟩
        have := HR.out
        simpa [hlt] using this
      · have hlt' : ¬ (hi : Int) < (v : Int) := by omega
        go_wp2
        go_ret
        refine ⟨sw (vL H ?_), B2⟩
        have := HR.out
        simpa [hlt] using this
  | none =>
    have HE : Hid (mS ⟨ck, ca, cb⟩ = .tuple #[.int .u64 0, .int .u64 0, .bool false]) := by unfold Hid mS; rw [hb]
    rw [HE.out]
    have h1 : ck = 1 ∧ ca ||| cb = ca := by
      rcases K.gp HV.out with h | ⟨a, b, h, h1⟩ | ⟨a, b, h, h1⟩
      · rw [h] at hb; simp [fB] at hb
      · cases h; exact ⟨rfl, h1⟩
      · rw [h] at hb; simp [fB] at hb
    obtain ⟨rfl, hcv⟩ := h1
    clear hb HE HB HW HD HV
    by_cases h2 : dk = 2
    · subst h2
      have HR : Hid (P ↔ (da <= cb ∧ cb ||| inv ca <= db)) := by unfold Hid; rw [<- HP.out]; exact wN hca hcv
      have HB : Hid (bits .or .u64 (cb : Int) (18446744073709551615 - (ca : Int)) = ((cb ||| inv ca : Nat) : Int)) := by
        have e : 18446744073709551615 - (ca : Int) = ((inv ca : Nat) : Int) := by unfold inv; omega
        unfold Hid
        rw [e]; exact u64_or cb _ hcb (jX _)
      have hca' : (ca : Int) <= 18446744073709551615 := by omega
      clear HP HV' hcv
      by_cases g1 : da <= cb
      · have g1' : (da : Int) <= (cb : Int) := by omega
        by_cases g2 : cb ||| inv ca <= db
        · have g2' : bits .or .u64 (cb : Int) (18446744073709551615 - (ca : Int)) <= (db : Int) := by rw [HB.out]; omega
          have HR' : Hid P := HR.out.2 ⟨g1, g2⟩
          clear HR HB g2 g1
          go_wp2
          go_ret
          exact ⟨by rw [yE H HR'.out]; simp, B1⟩
        · have g2' : ¬ bits .or .u64 (cb : Int) (18446744073709551615 - (ca : Int)) <= (db : Int) := by rw [HB.out]; omega
          have HR' : Hid (¬ P) := fun h => g2 (HR.out.1 h).2
          have HG : Hid (decide (bits .or .u64 (cb : Int) (18446744073709551615 - (ca : Int)) <= (db : Int)) = false) := decide_eq_false g2'
          clear HR HB g2 g1 g2'
          go_wp2
          go_ret
          refine ⟨?_, B1⟩
          rw [vL H HR'.out]
          simp [HG.out]
      · have g1' : ¬ (da : Int) <= (cb : Int) := by omega
        have HR' : Hid (¬ P) := fun h => g1 (HR.out.1 h).1
        clear HR HB g1
        go_wp2
        go_ret
        exact ⟨by rw [vL H HR'.out]; simp, B1⟩
    · have HR : Hid (P ↔ ∀ k, k < 64 -> da.testBit k = true -> ca.testBit k = true ∧ cb.testBit k = db.testBit k) := by
        unfold Hid
        rw [<- HP.out]
        rcases K.gp HV'.out with h | ⟨a, b, h, h1⟩ | ⟨a, b, h, h1⟩
        · cases h
          constructor
          · intro _ k _ h; simp at h
          · intro _; exact FA
        · cases h; exact uD hca hda hcv h1
        · cases h; exact absurd rfl h2
      have hca' : (ca : Int) <= 18446744073709551615 := by omega
      have hd2 : (dk == 2) = false := by simp [h2]
      clear HP HV' hcv h2
      go_wp2_with fail
      go_loopw [12] (fun i wr => ∃ k : Nat, k <= 64 ∧ i = .int .i64 k ∧ Hid (∀ j, j < k -> da.testBit j = true -> ca.testBit j = true ∧ cb.testBit j = db.testBit j) ∧ wr = w1) (fun i _ => 64 - (intOf i).toNat)
      case atStart => exact ⟨0, by omega, rfl, fun j hj => by omega, rfl⟩
      case round =>
        obtain ⟨k, hk, rfl, HJ, rfl⟩ := hrel
        by_cases hlt : k < 64
        · have hl := zO hlt
          have hl' : ((low k : Nat) : Int) + 1 <= 9223372036854775808 := by omega
          have HL : Hid (∀ w, Calls Tryz.prog 84 #[.int .i64 (k : Int)] w fun e w' => e = .returned (.int .u64 (low k : Nat)) ∧ w' = w) := fun w => kF k w (by omega)
          have hlt' : (k : Int) < 64 := by omega
          have HJ1 : Hid ((da.testBit k = true -> ca.testBit k = true ∧ cb.testBit k = db.testBit k) -> ∀ j, j < k + 1 -> da.testBit j = true -> ca.testBit j = true ∧ cb.testBit j = db.testBit j) := fun h j hj => by
            by_cases hjk : j = k
            · subst hjk; exact h
            · exact HJ.out j (by omega)
          cases hbit : da.testBit k with
          | false =>
            have e1 : (bits .and .u64 (da : Int) (((low k : Nat) : Int) + 1) != 0) = false := by rw [BM hda hlt hbit]; rfl
            have HJ' : Hid (∀ j, j < k + 1 -> da.testBit j = true -> ca.testBit j = true ∧ cb.testBit j = db.testBit j) := HJ1.out fun h => by rw [hbit] at h; exact absurd h (by decide)
            clear HJ HJ1 hbit HR
            generalize low k = L at *
            go_wp2_with fail
            refine (HL.out _).mono ?_
            rintro e w2 ⟨rfl, rfl⟩
            go_wp2
            go_roundw
            case rel => exact ⟨k + 1, by omega, by go_num, HJ', trivial⟩
            case measure => simp [intOf]; omega
          | true =>
            have e1 : (bits .and .u64 (da : Int) (((low k : Nat) : Int) + 1) != 0) = true := by rw [bne_iff_ne]; exact yz hda hlt hbit
            cases hbc : ca.testBit k with
            | false =>
              have e2 : (bits .and .u64 (ca : Int) (((low k : Nat) : Int) + 1) == 0) = true := by rw [BM hca hlt hbc]; rfl
              have HR' : Hid (¬ P) := fun h => by
                have := (HR.out.1 h k hlt hbit).1
                rw [hbc] at this; exact absurd this (by decide)
              clear HJ HJ1 hbit HR hbc
              generalize low k = L at *
              go_wp2_with fail
              refine (HL.out _).mono ?_
              rintro e w2 ⟨rfl, rfl⟩
              go_wp2
              go_ret
              exact ⟨by rw [vL H HR'.out]; simp, B1⟩
            | true =>
              have e2 : (bits .and .u64 (ca : Int) (((low k : Nat) : Int) + 1) == 0) = false := by rw [beq_eq_false_iff_ne]; exact yz hca hlt hbc
              by_cases hbb : cb.testBit k = db.testBit k
              · have e3 : (bits .and .u64 (cb : Int) (((low k : Nat) : Int) + 1) != bits .and .u64 (db : Int) (((low k : Nat) : Int) + 1)) = false := by
                  rw [qj hcb hlt, qj hdb hlt, (uk cb db k).2 hbb]; simp
                have HJ' : Hid (∀ j, j < k + 1 -> da.testBit j = true -> ca.testBit j = true ∧ cb.testBit j = db.testBit j) := HJ1.out fun h => ⟨hbc, hbb⟩
                clear HJ HJ1 hbit HR hbb hbc
                generalize low k = L at *
                go_wp2_with fail
                refine (HL.out _).mono ?_
                rintro e w2 ⟨rfl, rfl⟩
                go_wp2
                go_roundw
                case rel => exact ⟨k + 1, by omega, by go_num, HJ', trivial⟩
                case measure => simp [intOf]; omega
              · have e3 : (bits .and .u64 (cb : Int) (((low k : Nat) : Int) + 1) != bits .and .u64 (db : Int) (((low k : Nat) : Int) + 1)) = true := by
                  rw [qj hcb hlt, qj hdb hlt, bne_iff_ne]
                  intro e
                  exact hbb ((uk cb db k).1 (by omega))
                have HR' : Hid (¬ P) := fun h => hbb (HR.out.1 h k hlt hbit).2
                clear HJ HJ1 hbit HR hbb hbc
                generalize low k = L at *
                go_wp2_with fail
                refine (HL.out _).mono ?_
                rintro e w2 ⟨rfl, rfl⟩
                go_wp2
                go_ret
                exact ⟨by rw [vL H HR'.out]; simp, B1⟩
        · have hk' : k = 64 := by omega
          subst hk'
          have HR' : Hid P := HR.out.2 HJ.out
          clear HR HJ
          go_wp2
          go_ret
          exact ⟨by rw [yE H HR'.out]; simp, B1⟩
def gh(c:K):Value:=
 if c.kind=1 then .iface 202 (.agg #[.int .u64 (c.a:Int),.int .u64 (c.b:Int)])
 else if c.kind=2 then .iface 205 (.agg #[.int .u64 (c.a:Int),.int .u64 (c.b:Int)])
 else .iface 186 (.agg #[])
theorem u64_xor(a b:Nat)(ha:a<18446744073709551616)(hb:b<18446744073709551616):bits .xor .u64 (a:Int) (b:Int)=((a^^^b:Nat):Int):=bits_xor_u64_nat a b ha hb
theorem u64_andNot(a b:Nat)(ha:a<18446744073709551616)(hb:b<18446744073709551616):bits .andNot .u64 (a:Int) (b:Int)=((a&&&inv b:Nat):Int):=by
 have hx:a&&&inv b<2^64:=Nat.and_lt_two_pow _ (jX b);have h1:(BitVec.ofInt 64 (a:Int)).toNat=a:=by
  rw[BitVec.ofInt_natCast,BitVec.toNat_ofNat];exact cL (by omega)
 have h2:(BitVec.ofInt 64 (b:Int)).toNat=b:=by
  rw[BitVec.ofInt_natCast,BitVec.toNat_ofNat];exact cL (by omega)
 show IntKind.u64.wrap ((BitVec.ofInt 64 (a:Int)&&& ~~~BitVec.ofInt 64 (b:Int)).toNat:Int)=_;rw[BitVec.toNat_and,BitVec.toNat_not,h1,h2,aS];have e:2^64-1-b=inv b:=by unfold inv;omega
 rw[e];omega
theorem yG(a:Nat)(ha:a<18446744073709551616):bits .xor .u64 IntKind.u64.max (a:Int)=((inv a:Nat):Int):=by
 have e:IntKind.u64.max=((18446744073709551615:Nat):Int):=by decide
 rw[e,u64_xor _ _ (by omega) ha];congr 1;apply bu;intro i;rw[dj,lI ha,<-qZ,lD];by_cases h:i<64
 ·simp[h]
 simp[h,lv ha (show 64<=i by omega)]
theorem Ag{b:Nat}(ha:a<18446744073709551616)(hb:b<18446744073709551616):(b&&&inv a==0)=(a|||b==a):=by
 rw[cB,beq_iff_eq,beq_iff_eq];constructor
 ·intro h;rw[jH]at h;apply bu;intro i;rw[cN];have:=h i;rw[lI ha]at this;rcases de i 64 with h1|h1
  ·revert this
   cases a.testBit i<;>cases b.testBit i<;>simp[h1]
  rw[lv hb h1,Bool.or_false]
 exact ss ha
theorem vT(c:K)(w:World)(ho:c.ok):
 Calls Tryz.prog 124 #[fC c] w fun e w'=>e=.returned (.bool (eI c))∧Below w.heap.size w w':=by
 obtain⟨kind,a,b⟩:=c;obtain⟨⟨k0,k1⟩,ha,hb⟩:=ho;simp only at k0 k1 ha hb;simp only[fC];have B:Below w.heap.size w (w.alloc (.cells #[.int .i64 kind,.int .u64 (a:Int),.int .u64 (b:Int)] 84)):=(af _ _).alloc (ae _) _;obtain⟨V,hV⟩:∃V,eI ⟨kind,a,b⟩=V:=⟨_,rfl⟩;have HV:Hid (eI ⟨kind,a,b⟩=V):=hV;rw[hV];clear hV;by_cases h0:kind=0
 ·subst h0;by_cases ha0:a=0
  ·subst ha0;go_enter Tryz.func124,Tryz.ntmps124;go_wp2;go_ret;exact⟨by rw[<-HV.out,pT];simp[eI],B⟩
  have ha1:¬(a:Int)=0:=by omega
  go_enter Tryz.func124,Tryz.ntmps124;go_wp2;go_ret;exact⟨by rw[<-HV.out];simp[eI,ha0],B⟩
 by_cases h1:kind=1
 ·subst h1;have HB:Hid (bits .andNot .u64 (b:Int) (a:Int)=((b&&&inv a:Nat):Int)):=u64_andNot b a hb ha;go_enter Tryz.func124,Tryz.ntmps124;go_wp2;go_ret;refine⟨?_,B⟩;rw[<-HV.out,HB.out,pT,Ag ha hb];simp[eI]
 by_cases h2:kind=2
 ·subst h2;by_cases hab:a<=b
  ·have hab':(a:Int)<=(b:Int):=by omega
   go_enter Tryz.func124,Tryz.ntmps124;go_wp2;go_ret;exact⟨by rw[<-HV.out];simp[eI,hab],B⟩
  have hab':¬(a:Int)<=(b:Int):=by omega
  go_enter Tryz.func124,Tryz.ntmps124;go_wp2;go_ret;exact⟨by rw[<-HV.out];simp[eI,hab],B⟩
 go_enter Tryz.func124,Tryz.ntmps124;go_wp2;go_ret;exact⟨by rw[<-HV.out];simp[eI,h0,h1,h2],B⟩
theorem qv(v:Nat)(w:World)(hv:v<18446744073709551616):
 Calls Tryz.prog 142 #[.int .u64 (v:Int)] w fun e w'=>e=.returned (.bool (iA v))∧w'=w:=by
 have HB:Hid (bits .and .u64 (v:Int) (IntKind.u64.wrap ((v:Int)+1))=((v&&&((v+1)%18446744073709551616):Nat):Int)):=by
  have e:IntKind.u64.wrap ((v:Int)+1)=(((v+1)%18446744073709551616:Nat):Int):=by rw[aS];omega
  unfold Hid;rw[e];exact u64_and v _ hv (by omega)
 go_enter Tryz.func142,Tryz.ntmps142;go_wp2;go_ret;refine⟨?_,rfl⟩;rw[HB.out,pT];rfl
theorem pz(m v:Nat)(w:World)(hm:m<18446744073709551616)(hv:v<18446744073709551616):
 Calls Tryz.prog 128 #[.int .u64 (m:Int),.int .u64 (v:Int)] w fun e w'=>e=.returned (gh (fI m v))∧w'=w:=by
 by_cases h0:m=0
 ·subst h0;go_enter Tryz.func128,Tryz.ntmps128;go_wp2;go_ret;exact⟨rfl,rfl⟩
 have h1:¬(m:Int)=0:=by omega
 have HE:Hid (gh (fI m v)=.iface 202 (.agg #[.int .u64 (m:Int),.int .u64 (v:Int)])):=by unfold Hid fI;rw[if_neg h0];rfl
 rw[HE.out];go_enter Tryz.func128,Tryz.ntmps128;go_wp2;go_ret;exact⟨rfl,rfl⟩
theorem rC(l h:Nat)(w:World)(hl:l<18446744073709551616)(hh:h<18446744073709551616):
 Calls Tryz.prog 129 #[.int .u64 (l:Int),.int .u64 (h:Int)] w fun e w'=>e=.returned (gh (eF l h))∧w'=w:=by
 have hx:=mj hl hh;have HX:bits .xor .u64 (l:Int) (h:Int)=((l^^^h:Nat):Int):=u64_xor l h hl hh;have HL:Hid (∀w,Calls Tryz.prog 142 #[.int .u64 ((l^^^h:Nat):Int)] w fun e w'=>e=.returned (.bool (iA (l^^^h)))∧w'=w):=fun w=>qv _ w hx
 have HM:Hid (∀w,Calls Tryz.prog 128 #[.int .u64 ((inv (l^^^h):Nat):Int),.int .u64 (l:Int)] w fun e w'=>e=.returned (gh (fI (inv (l^^^h)) l))∧w'=w):=fun w=>pz _ l w (jX _) hl
 have HA:Hid (bits .and .u64 (l:Int) ((l^^^h:Nat):Int)=((l&&&(l^^^h):Nat):Int)):=u64_and l _ hl hx;have HI:Hid (bits .xor .u64 IntKind.u64.max ((l^^^h:Nat):Int)=((inv (l^^^h):Nat):Int)):=yG _ hx;by_cases e1:iA (l^^^h)=true
 ·by_cases e2:l&&&(l^^^h)=0
  ·have HE:Hid (eF l h=fI (inv (l^^^h)) l):=by unfold Hid eF;rw[if_pos ⟨e1,e2⟩]
   have e2':bits .and .u64 (l:Int) ((l^^^h:Nat):Int)=0:=by rw[HA.out,e2];rfl
   rw[HE.out];rw[e1]at HL;clear HE HA e1 e2;have e3:=HI.out;clear HI;generalize fI (inv (l^^^h)) l=N at*;generalize inv (l^^^h)=I at*;generalize l^^^h=x at*;go_enter Tryz.func129,Tryz.ntmps129;go_wp2_with fail;refine(HL.out _).mono ?_;rintro e w1⟨rfl,rfl⟩;go_wp2_with fail;refine(HM.out _).mono ?_;rintro e w1⟨rfl,rfl⟩;go_wp2;go_ret;exact⟨rfl,rfl⟩
  have HE:Hid (gh (eF l h)=.iface 205 (.agg #[.int .u64 (l:Int),.int .u64 (h:Int)])):=by unfold Hid eF;rw[if_neg (fun q=>e2 q.2)];rfl
  have e2':¬bits .and .u64 (l:Int) ((l^^^h:Nat):Int)=0:=by rw[HA.out];omega
  rw[HE.out];rw[e1]at HL;clear HE HA e1 e2 HM HI;generalize l^^^h=x at*;go_enter Tryz.func129,Tryz.ntmps129;go_wp2_with fail;refine(HL.out _).mono ?_;rintro e w1⟨rfl,rfl⟩;go_wp2;go_ret;exact⟨rfl,rfl⟩
 have HE:Hid (gh (eF l h)=.iface 205 (.agg #[.int .u64 (l:Int),.int .u64 (h:Int)])):=by unfold Hid eF;rw[if_neg (fun q=>e1 q.1)];rfl
 rw[HE.out];rw[Bool.not_eq_true]at e1;rw[e1]at HL;clear HE HA e1 HM HI;generalize l^^^h=x at*;go_enter Tryz.func129,Tryz.ntmps129;go_wp2_with fail;refine(HL.out _).mono ?_;rintro e w1⟨rfl,rfl⟩;go_wp2;go_ret;exact⟨rfl,rfl⟩
theorem tP(c:K)(w:World)(ho:c.ok):
 Calls Tryz.prog 101 #[fC c] w fun e w'=>e=.returned (gh (eQ c))∧Below w.heap.size w w':=by
 obtain⟨kind,a,b⟩:=c;obtain⟨⟨k0,k1⟩,ha,hb⟩:=ho;simp only at k0 k1 ha hb;simp only[fC];have B:Below w.heap.size w (w.alloc (.cells #[.int .i64 kind,.int .u64 (a:Int),.int .u64 (b:Int)] 84)):=(af _ _).alloc (ae _) _;by_cases h1:kind=1
 ·subst h1;have HE:Hid (eQ ⟨1,a,b⟩=fI a b):=rfl;have HM:Hid (∀w,Calls Tryz.prog 128 #[.int .u64 (a:Int),.int .u64 (b:Int)] w fun e w'=>e=.returned (gh (fI a b))∧w'=w):=fun w=>pz a b w ha hb
  rw[HE.out];clear HE;generalize fI a b=N at*;go_enter Tryz.func101,Tryz.ntmps101;go_wp2_with fail;refine(HM.out _).mono ?_;rintro e w1⟨rfl,rfl⟩;go_wp2;go_ret;exact⟨rfl,B⟩
 by_cases h2:kind=2
 ·subst h2;have HE:Hid (eQ ⟨2,a,b⟩=eF a b):=rfl;have HM:Hid (∀w,Calls Tryz.prog 129 #[.int .u64 (a:Int),.int .u64 (b:Int)] w fun e w'=>e=.returned (gh (eF a b))∧w'=w):=fun w=>rC a b w ha hb
  rw[HE.out];clear HE;generalize eF a b=N at*;go_enter Tryz.func101,Tryz.ntmps101;go_wp2_with fail;refine(HM.out _).mono ?_;rintro e w1⟨rfl,rfl⟩;go_wp2;go_ret;exact⟨rfl,B⟩
 have HE:Hid (gh (eQ ⟨kind,a,b⟩)=.iface 186 (.agg #[])):=by simp[Hid,eQ,h1,h2,gh]
 rw[HE.out];go_enter Tryz.func101,Tryz.ntmps101;go_wp2;go_ret;exact⟨rfl,B⟩
theorem Dj:∀n x:Nat,x<=n->x<18446744073709551616->Lib.bitLen x=jo x
 |0,x,h,_=>by
  have:x=0:=by omega
  subst this;decide
 |n+1,x,h,hx=>by
  by_cases h0:x=0
  ·subst h0;decide
  rw[Lib.bitLen_half x h0 hx,Dj n (x/2) (by omega) (by omega)];unfold jo;by_cases h1:x=1
  ·subst h1;decide
  rw[if_neg h0,if_neg (by omega),Nat.log2_def x,if_pos (by omega)];omega
theorem mn{x y:Int}(s:Nat)(h0:0<=x)(h1:x<=18446744073709551615)(hy0:0<=y)(hy:y<=255)(e:x.toNat/2^s=y.toNat)(hs:2^s<=x.toNat):Lib.len8 y=(Lib.bitLen x.toNat:Int)-s∧Lib.bitLen y.toNat<=8:=by
 rw[Lib.len8_of y hy0 hy,Lib.bitLen_shift s x.toNat hs (by omega),e];exact⟨by omega,Lib.bitLen_le8' y hy0 hy⟩
theorem mF{y:Int}(hy0:0<=y)(hy:y<=255):0<=Lib.len8 y∧Lib.len8 y<=8:=by
 have:=Lib.bitLen_le8' y hy0 hy;rw[Lib.len8_of y hy0 hy];omega
theorem Dp(x:Nat)(w:World)(hx:x<18446744073709551616):
 Calls Tryz.prog 152 #[.int .u64 (x:Int)] w fun e w'=>e=.returned (.int .i64 ((jo x:Nat):Int))∧w'=w:=by
 have HE:Hid (jo x=Lib.bitLen (x:Int).toNat):=by unfold Hid;rw[Int.toNat_natCast];exact(Dj x x (ae _) hx).symm
 have h0:0<=(x:Int):=by omega
 have h1:(x:Int)<=18446744073709551615:=by omega
 rw[HE.out];clear HE hx;generalize(x:Int)=y at*;by_cases c3:(4294967296:Int)<=y
 ·by_cases c2:(65536:Int)<=y/4294967296
  ·by_cases c1:(256:Int)<=y/4294967296/65536
   ·have q0:0<=y/4294967296/65536/256:=by omega
    have q1:y/4294967296/65536/256<=255:=by omega
    have HQ:Hid (Lib.len8 (y/4294967296/65536/256)=(Lib.bitLen y.toNat:Int)-56):=(mn 56 h0 h1 q0 q1 (by omega) (by omega)).1;obtain⟨b0,b1⟩:=mF q0 q1;go_enter Tryz.func152,Tryz.ntmps152;go_wp2;go_ret;refine⟨fL ?_,rfl⟩;have:=HQ.out;omega
   have q0:0<=y/4294967296/65536:=by omega
   have q1:y/4294967296/65536<=255:=by omega
   have HQ:Hid (Lib.len8 (y/4294967296/65536)=(Lib.bitLen y.toNat:Int)-48):=(mn 48 h0 h1 q0 q1 (by omega) (by omega)).1;obtain⟨b0,b1⟩:=mF q0 q1;go_enter Tryz.func152,Tryz.ntmps152;go_wp2;go_ret;refine⟨fL ?_,rfl⟩;have:=HQ.out;omega
  by_cases c1:(256:Int)<=y/4294967296
  ·have q0:0<=y/4294967296/256:=by omega
   have q1:y/4294967296/256<=255:=by omega
   have HQ:Hid (Lib.len8 (y/4294967296/256)=(Lib.bitLen y.toNat:Int)-40):=(mn 40 h0 h1 q0 q1 (by omega) (by omega)).1;obtain⟨b0,b1⟩:=mF q0 q1;go_enter Tryz.func152,Tryz.ntmps152;go_wp2;go_ret;refine⟨fL ?_,rfl⟩;have:=HQ.out;omega
  have q0:0<=y/4294967296:=by omega
  have q1:y/4294967296<=255:=by omega
  have HQ:Hid (Lib.len8 (y/4294967296)=(Lib.bitLen y.toNat:Int)-32):=(mn 32 h0 h1 q0 q1 (by omega) (by omega)).1;obtain⟨b0,b1⟩:=mF q0 q1;go_enter Tryz.func152,Tryz.ntmps152;go_wp2;go_ret;refine⟨fL ?_,rfl⟩;have:=HQ.out;omega
 by_cases c2:(65536:Int)<=y
 ·by_cases c1:(256:Int)<=y/65536
  ·have q0:0<=y/65536/256:=by omega
   have q1:y/65536/256<=255:=by omega
   have HQ:Hid (Lib.len8 (y/65536/256)=(Lib.bitLen y.toNat:Int)-24):=(mn 24 h0 h1 q0 q1 (by omega) (by omega)).1;obtain⟨b0,b1⟩:=mF q0 q1;go_enter Tryz.func152,Tryz.ntmps152;go_wp2;go_ret;refine⟨fL ?_,rfl⟩;have:=HQ.out;omega
  have q0:0<=y/65536:=by omega
  have q1:y/65536<=255:=by omega
  have HQ:Hid (Lib.len8 (y/65536)=(Lib.bitLen y.toNat:Int)-16):=(mn 16 h0 h1 q0 q1 (by omega) (by omega)).1;obtain⟨b0,b1⟩:=mF q0 q1;go_enter Tryz.func152,Tryz.ntmps152;go_wp2;go_ret;refine⟨fL ?_,rfl⟩;have:=HQ.out;omega
 by_cases c1:(256:Int)<=y
 ·have q0:0<=y/256:=by omega
  have q1:y/256<=255:=by omega
  have HQ:Hid (Lib.len8 (y/256)=(Lib.bitLen y.toNat:Int)-8):=(mn 8 h0 h1 q0 q1 (by omega) (by omega)).1;obtain⟨b0,b1⟩:=mF q0 q1;go_enter Tryz.func152,Tryz.ntmps152;go_wp2;go_ret;refine⟨fL ?_,rfl⟩;have:=HQ.out;omega
 have q0:0<=y:=by omega
 have q1:y<=255:=by omega
 have HQ:Hid (Lib.len8 (y)=(Lib.bitLen y.toNat:Int)):=Lib.len8_of y q0 q1;obtain⟨b0,b1⟩:=mF q0 q1;go_enter Tryz.func152,Tryz.ntmps152;go_wp2;go_ret;refine⟨fL ?_,rfl⟩;have:=HQ.out;omega
def Meth(c:K)(name:String)(args:Array Value)(r:Value):Prop:=∃T P F,gh c=.iface T P∧(∀w,(method 349 T P name).run Tryz.prog w=.ok (F,P) w)∧(∀(xs:Array Value)(w:World),(callFunc F xs).run Tryz.prog w=.ok (.enter F xs) w)∧
 ∀w,Calls Tryz.prog F (#[P]++args) w fun e w'=>e=.returned r∧Below w.heap.size w w'
end Go.Proofs.YtdihdapmphkhpaaGreat
