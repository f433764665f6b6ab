import Derived.Test.YtdihdapmphkhpaaGreatQ10
set_option linter.all false
set_option maxRecDepth 200000
set_option maxHeartbeats 16000000
namespace Go.Proofs.YtdihdapmphkhpaaGreat
open Go.RowKit Go.Deep
theorem yx(R cap:Nat)(a:Option Addr)(l:List Int)(j:Nat)(w:World)(hR:Rd w R a cap l j):
 Calls Tryz.prog 38 #[.pointer (some ⟨R,0,none⟩)] w fun e w'=>∃v,e=.returned (Fz (mN l j) v)∧iq w' w.heap.size v (mN l j).args∧Rd w' R a cap l (oH l j)∧w.grownBy w' (some R):=by
 obtain⟨i1,hi1,hy0,hy1,hy2⟩:=info_parts info61;have hx:=ez hR.bys (j+1);have HAr:Hid (∀W,Rd W R a cap l j->Calls Tryz.prog 78 #[.pointer (some ⟨R,0,none⟩)] W fun e w'=>e=.returned (.int .u32 (pC l j))∧Rd w' R a cap l (j+1)∧W.grownBy w' (some R)):=fun W h=>Gk R cap a l j W h
 have HN:=nx1 R cap a l (j+1) (j+2) rfl;have HW:Hid (∀W,Rd W R a cap l (j+2)->Calls Tryz.prog 79 #[.pointer (some ⟨R,0,none⟩)] W fun e w'=>e=.returned (.int .u32 (kB l (j+2)))∧Rd w' R a cap l (jK l (j+2))∧W.grownBy w' (some R)):=fun W h=>nU R cap a l (j+2) W h
 obtain⟨k,hk⟩:∃k,l.getD (j+1) 0=k:=⟨_,rfl⟩;obtain⟨A,hA⟩:∃A:Nat->List Int,∀i,(agD l k (nrJ l j) i).1=A i:=⟨_,fun _=>rfl⟩;obtain⟨J,hJ⟩:∃J:Nat->Nat,∀i,(agD l k (nrJ l j) i).2=J i:=⟨_,fun _=>rfl⟩;have HA:Hid (∀i W,Rd W R a cap l (J i)->Calls Tryz.prog 39 #[.pointer (some ⟨R,0,none⟩)] W fun e w'=>e=.returned (.int .u64 (j9 l (J i)))∧Rd w' R a cap l (k9 l (J i))∧W.grownBy w' (some R)):=fun i W h=>ue R cap a l (J i) W h
 have HS0:Hid (∀i,2<i->0<k%4->A (i+1)=A i++[0]∧J (i+1)=J i):=fun i h1 h2=>by
  rw[<-hA (i+1),<-hJ (i+1),<-hA i,<-hJ i,zj,if_pos ⟨h1,h2⟩];exact⟨rfl,rfl⟩
 have HS1:Hid (∀i,¬(2<i∧0<k%4)->A (i+1)=A i++[j9 l (J i)]∧J (i+1)=k9 l (J i)):=fun i h1=>by
  rw[<-hA (i+1),<-hJ (i+1),<-hA i,<-hJ i,zj,if_neg h1];exact⟨rfl,rfl⟩
 have HL:Hid (∀i,(A i).length=i):=fun i=>by rw[<-hA i];exact CV l k _ i
 have hJ0:J 0=nrJ l j:=(hJ 0).symm;have hA0:A 0=[]:=(hA 0).symm;have hcd:mN l j=⟨pC l j,nrD l j,A 6⟩:=by unfold mN;rw[hk,hA 6]
 have hcj:oH l j=J 6:=by unfold oH;rw[hk,hJ 6]
 rw[hcd,hcj];have hnr:nrD l j=if 240<k then kB l (j+2)else k%6:=by unfold nrD;rw[hk]
 have hnj:nrJ l j=if 240<k then jK l (j+2)else j+2:=by unfold nrJ;rw[hk]
 rw[hnj]at hJ0;obtain⟨NR,hNR⟩:∃NR:Int,(if 240<k then kB l (j+2)else k%6)=NR:=⟨_,rfl⟩;rw[hnr,hNR];have HNR:Hid ((if 240<k then kB l (j+2)else k%6)=NR):=hNR;rw[hk]at hx HN;clear hcd hcj hA hJ hnr hnj hk hNR;generalize pC l j=ar at*;have HJ0:Hid _:=hJ0;have HA0:Hid _:=hA0;clear hJ0 hA0;have hw0:=kU l hR.bys (j+2);have hRw:=hR.lt;have b0:Below w.heap.size w (w.alloc (.cells #[.int .u32 0,.int .u32 0,.slice none 0 0] 29)):=(af _ _).alloc (ae _) _;have X0:=fY.new w 29 (.int .u32 0) (.int .u32 0) (.slice none 0 0);go_enter Tryz.func38,Tryz.ntmps38;go_wp2_with fail;generalize w.alloc (.cells #[.int .u32 0,.int .u32 0,.slice none 0 0] 29)=w0 at*;refine(HAr.out _ (hR.below b0)).mono ?_;rintro _ w1⟨rfl,hR1,hg1⟩;have X1:=X0.gX hg1 (fun e=>by simp at e;omega);have hlt1:=X1.lt;have D1:DcS w (w1.alloc (.cells #[.int .u32 ar,.int .u32 0,.slice none 0 0] 29)) R a cap l (j+1) w1.heap.size ar 0 (.slice none 0 0) []:=
  ⟨hR1.alloc _,fY.new w1 _ _ _ _,X1.alloc _,aZ _ _ _ _,fu (eU (fJ b0) hg1) _,hRw,hlt1⟩
 clear hg1 X0 X1 hR1 b0;go_wp2_with fail;generalize w1.alloc (.cells #[.int .u32 ar,.int .u32 0,.slice none 0 0] 29)=W1 at*;generalize w1.heap.size=G at*;refine(HN.out _ D1.rd).mono ?_;rintro _ w2⟨rfl,hR2,hg2⟩;have D2:=D1.draw hR2 hg2;have D3:=D2.nr (k%6);obtain⟨_,c0,c1,c2,f0,f1,f2⟩:=D2.box;clear D1 hR2 hg2;have hk6:IntKind.u32.wrap (k%6)=k%6:=by rw[IntKind.wrap_u32];omega
 by_cases hk:240<k
 case' pos=>
  have hkn:NR=kB l (j+2):=by rw[<-HNR.out,if_pos hk]
  have hkj:Hid (J 0=jK l (j+2)):=by have:=HJ0.out;rw[if_pos hk]at this;exact this
  have HW2:Hid (∀W,Rd W R a cap l (j+2)->Calls Tryz.prog 79 #[.pointer (some ⟨R,0,none⟩)] W fun e w'=>e=.returned (.int .u32 NR)∧Rd w' R a cap l (jK l (j+2))∧W.grownBy w' (some R)):=by rw[hkn];exact HW
  clear HNR HJ0 HW hkn;go_wp2_with fail;generalize w2.setCell ⟨G,1,none⟩ (.int .u32 (k%6))=W3 at*;refine(HW2.out _ D3.rd).mono ?_;rintro _ w4⟨rfl,hR4,hg4⟩;have D4:=D3.draw hR4 hg4;have D5:=D4.nr NR;obtain⟨_,c0,c1,c2,f0,f1,f2⟩:=D4.box;rw[<-hkj.out]at D5;clear D2 D3 D4 hg4 hR4 HW2;go_wp2_with fail;generalize w4.setCell ⟨G,1,none⟩ (.int .u32 NR)=W5 at*
 case' neg=>
  have hkn:Hid (NR=k%6):=by unfold Hid;rw[<-HNR.out,if_neg hk]
  have hkj:Hid (J 0=j+2):=by have:=HJ0.out;rw[if_neg hk]at this;exact this
  clear HNR HJ0 HW;rw[<-hkj.out]at D3;have D5:=D3;clear D2 D3;go_wp2_with fail;rw[<-hkn.out];rw[<-hkn.out]at D5;generalize w2.setCell ⟨G,1,none⟩ (.int .u32 NR)=W5 at*
 all_goals
  rw[<-HA0.out]at D5;clear HAr HN hkj c0 c1 c2 f0 f1 f2;go_loopw [5](fun i W=>∃(n:Nat)(v:Value),i=.int .i64 (n:Int)∧n<=6∧DcS w W R a cap l (J n) G ar NR v (A n))(fun i _=>6-(intOf i).toNat)
  case atStart=>exact⟨0,_,rfl,by omega,D5⟩
  case round=>
   obtain⟨n,v,rfl,hn6,D⟩:=hrel;clear D5;obtain⟨av,cv,ev,_⟩:=wP D.own;rw[HL.out n]at ev;subst ev;by_cases hlt:n<6
   ·have hbm:n+1<=maxLen:=by unfold maxLen;omega
    have hbd:(n+1)*8<=140737488355328:=by omega
    by_cases hz:2<n∧0<k%4
    ·obtain⟨eA,eJ⟩:=HS0.out n hz.1 hz.2;have HeA:Hid _:=eA;have HeJ:Hid _:=eJ;have hz1:(2:Int)<(n:Int):=by omega
     have hz2:=hz.2;clear eA eJ hz;have DA:=D.alloc (.cells #[.int .u64 0] 43);have ho:=DA.own;rw[iq,HL.out n]at ho;have hG:=DA.box.lt;obtain⟨_,c0,c1,c2,f0,f1,f2⟩:=D.box;clear HA HS0 HS1;go_wp2_with(at_builtin;refine wpList_append_lies _ rfl (.tmp 32) (.tmp 33) 27 rfl (G+1) 43 i1 (.int .u64 0) 1 8 Tryz.underlying27 hi1 hy0 hy1 hy2 rfl (by decide) _ n ((A n).map (Value.int .u64)) rfl ho ⟨wr.heap.size,0,none⟩ 1 1 [.int .u64 0] rfl rfl (World.news_of_block (t:=43) (fr:=(0,0)) (heap_alloc_new wr _)) (by simp[Value.oneCell']) (by omega) hbm hbd (by omega) (wr.heap.size+1) (by simp) ?_);intro g' cp' w9 ow gr _ _;have o9:iq w9 (G+1) (.slice (some ⟨g',0,none⟩) (n+1) cp') (A (n+1)):=by
      rw[HeA.out,iq,aj,HL.out n,bL];exact ow
     have D9:=DA.push gr o9;rw[<-HeJ.out]at D9;obtain⟨_,b0,b1,b2,e0,e1,e2⟩:=DA.box.gX gr (fun e=>by have:=(DA.own.lt G e.symm).1;omega);clear ow gr o9 DA D ho HeA HeJ c0 c1 c2 f0 f1 f2;go_wp2;go_roundw
     case rel=>exact⟨n+1,_,by go_num,by omega,D9⟩
     case measure=>simp[intOf];omega
    obtain⟨eA,eJ⟩:=HS1.out n hz;have HeA:Hid _:=eA;have HeJ:Hid _:=eJ;have hz':¬((2:Int)<(n:Int))∨((2:Int)<(n:Int)∧¬(0<k%4)):=by omega
    clear eA eJ hz;have HA':=HA.out n;have HA2:Hid (∀W,Rd W R a cap l (J n)->Calls Tryz.prog 39 #[.pointer (some ⟨R,0,none⟩)] W fun e w'=>e=.returned (.int .u64 (j9 l (J n)))∧Rd w' R a cap l (k9 l (J n))∧W.grownBy w' (some R)):=HA';have hln:=HL.out n;clear HA HS0 HS1 HA';generalize j9 l (J n)=x at*;generalize k9 l (J n)=Jx at*;generalize A n=An at*;generalize J n=Jn at*;obtain⟨_,c0,c1,c2,f0,f1,f2⟩:=D.drew.box;have Dd:=D.drew;rcases hz' with hz'|⟨hz',hz2⟩
    all_goals
     go_wp2_with fail;go_region_law(first
      |(refine step_append_lies _ (by rfl) _ _ _ (by rfl) (G+1) 43 i1 (.int .u64 0) 1 8 Tryz.underlying27 hi1 hy0 hy1 hy2 rfl (by decide) _ n (An.map (Value.int .u64)) (by rfl) (by have h:=D8.own;rw[iq,hln]at h;exact h) ⟨w7.heap.size,0,none⟩ 1 1 [.int .u64 x] (by rfl) (by rfl) (World.news_of_block (t:=43) (fr:=(0,0)) (heap_alloc_new w7 _)) (by simp[Value.oneCell']) (by omega) hbm hbd (by have:=D8.box.lt;omega) (w7.heap.size+1) (by simp) ?_;intro g' cp' w9 ow gr _ _;obtain⟨_,b0,b1,b2,e0,e1,e2⟩:=D8.box.gX gr (fun e=>by have:=(D8.own.lt G e.symm).1;omega))
      |(go_simp;go_at_call 39;refine(HA2.out _ Dd.rd).mono ?_;rintro _ w7⟨rfl,hR7,hg7⟩;have D7:=Dd.draw hR7 hg7;have D8:=D7.alloc (.cells #[.int .u64 x] 43);have c7:=D7.box.c2;have c8:=D8.box.c2;go_wp2_with fail))
     all_goals
      have o9:iq w9 (G+1) (.slice (some ⟨g',0,none⟩) (n+1) cp') (A (n+1)):=by
       rw[HeA.out,iq,aj,hln,bL];exact ow
      have D9:=D8.push gr o9;rw[<-HeJ.out]at D9;clear ow gr o9 D8 D7 D Dd HeA HeJ c0 c1 c2 f0 f1 f2 b0 b1 b2 e0 e1 e2 c7 c8 hR7 hg7 HA2;go_wp2;go_roundw
      case rel=>exact⟨n+1,_,by go_num,by omega,D9⟩
      case measure=>simp[intOf];omega
   obtain rfl:n=6:=by omega
   have HLc:=HL.out 6;obtain⟨_,c0,c1,c2,f0,f1,f2⟩:=D.box;obtain⟨_,b0,b1,b2,e0,e1,e2⟩:=D.res;have hGw:=D.hb;have hRw':=D.lt;have o6:iq (((wr.setCell ⟨w.heap.size,0,none⟩ (.int .u32 ar)).setCell ⟨w.heap.size,1,none⟩ (.int .u32 NR)).setCell ⟨w.heap.size,2,none⟩ (.slice av 6 cv)) w.heap.size (.slice av 6 cv) (A 6):=by
    have hne:∀q,(Value.slice av 6 cv).ownBlock=some q->q≠w.heap.size:=fun q hq=>by have:=(D.own.lt q hq).1;omega
    exact qT (gJ (gJ (gJ D.own hne) hne) hne) (by omega)
   have r6:=((D.rd.tG w.heap.size 0 hRw' (.int .u32 ar)).tG w.heap.size 1 hRw' (.int .u32 NR)).tG w.heap.size 2 hRw' (.slice av 6 cv);have g6:=jT (jT (jT D.gr (ae _) 0 (.int .u32 ar)) (ae _) 1 (.int .u32 NR)) (ae _) 2 (.slice av 6 cv);clear HA HS0 HS1 D;go_wp2;refine bodyPost_ret (v:=.agg #[.int .u32 ar,.int .u32 NR,.slice av 6 cv]) (by simp[results,Tryz.results38,go_sem,b0,b1,b2]) rfl ?_;exact⟨_,rfl,o6,r6,g6⟩
end Go.Proofs.YtdihdapmphkhpaaGreat
namespace Go.Proofs.YtdihdapmphkhpaaGreat
open Go.RowKit Go.Deep
theorem Bd{w:World}{B g n cp i:Nat}{l:List Int}(y:Int)(h:iq w B (.slice (some ⟨g,0,none⟩) n cp) l)(hi:i<l.length):iq (w.setCell ⟨g,i,none⟩ (.int .u64 y)) B (.slice (some ⟨g,0,none⟩) n cp) (l.set i y):=by
 obtain⟨h0,h|⟨g',cap,cur,e,hb,hg,hn,hm,hs,hx⟩⟩:=h
 ·cases h.1
 simp only[bs,bz,Addr.mk.injEq]at e;obtain⟨⟨rfl,_,_⟩,rfl,rfl⟩:=e;refine⟨by simp,.inr ⟨g,cp,cur.setIfInBounds i (.int .u64 y),by rw[aK],hb,heap_setCell_same w g i cur _ _ hg,by rw[aK];exact hn,hm,by simpa using hs,?_⟩⟩;simp only[aK];rw[List.map_set,<-hx,Array.toList_setIfInBounds,List.take_set]
structure DfS(w W:World)(R:Nat)(ad:Option Addr)(cap:Nat)(l:List Int)(j:Nat)(pv:Value)(G:Nat)(ar nr:Int)(q cq:Nat)(args:List Int):Prop where
 rd:Rd W R ad cap l j
 gr:w.grownBy W (some R)
 lt:R<w.heap.size
 pc:W.cell? ⟨w.heap.size,0,none⟩=some pv
 box:fY W G (.int .u32 ar) (.int .u32 nr) (.slice (some ⟨q,0,none⟩) 6 cq)
 ans:fY W (w.heap.size+1) (.int .u32 0) (.int .u32 0) (.slice none 0 0)
 own:iq W (w.heap.size+2) (.slice (some ⟨q,0,none⟩) 6 cq) args
 len:args.length=6
 u64:∀x∈args,gA x
 hG:w.heap.size+1<G
 hq:q≠G
 ra:0<=ar∧ar<=4294967295
 rn:0<=nr∧nr<=4294967295
section
variable{w W W1:World}{R cap j j1 G q cq:Nat}{ad:Option Addr}{l args:List Int}{pv:Value}{ar nr:Int}
theorem DfS.draw(h:DfS w W R ad cap l j pv G ar nr q cq args)(hr:Rd W1 R ad cap l j1)(hg:W.grownBy W1 (some R)):DfS w W1 R ad cap l j1 pv G ar nr q cq args:=by
 have h1:=h.lt;have h2:=h.hG;have h3:=h.ans.lt;obtain⟨a1,_⟩:=eB (g:=w.heap.size) (o:=0) hg (by omega) (by simp;omega);exact⟨hr,eU h.gr hg,h1,a1.trans h.pc,h.box.gX hg (fun e=>by simp at e;omega),h.ans.gX hg (fun e=>by simp at e;omega),sD h.own hg (by omega),h.len,h.u64,h2,h.hq,h.ra,h.rn⟩
theorem DfS.below(h:DfS w W R ad cap l j pv G ar nr q cq args)(hb:Below W.heap.size W W1):DfS w W1 R ad cap l j pv G ar nr q cq args:=h.draw (h.rd.below hb) (fJ hb)
theorem DfS.et(h:DfS w W R ad cap l j pv G ar nr q cq args)(x:Int)(hx:0<=x∧x<=4294967295):DfS w (W.setCell ⟨G,0,none⟩ (.int .u32 x)) R ad cap l j pv G x nr q cq args:=by
 have h1:=h.lt;have h2:=h.hG;exact⟨h.rd.tG G 0 (by omega) _,jT h.gr (by omega) _ _,h1,by rw[eY (by omega)];exact h.pc,h.box.set0 _,h.ans.sW (by omega),gJ h.own (fun k hk=>by simp[Value.ownBlock]at hk;rw[<-hk];exact h.hq),h.len,h.u64,h2,h.hq,hx,h.rn⟩
theorem DfS.nrS(h:DfS w W R ad cap l j pv G ar nr q cq args)(x:Int)(hx:0<=x∧x<=4294967295):DfS w (W.setCell ⟨G,1,none⟩ (.int .u32 x)) R ad cap l j pv G ar x q cq args:=by
 have h1:=h.lt;have h2:=h.hG;exact⟨h.rd.tG G 1 (by omega) _,jT h.gr (by omega) _ _,h1,by rw[eY (by omega)];exact h.pc,h.box.set1 _,h.ans.sW (by omega),gJ h.own (fun k hk=>by simp[Value.ownBlock]at hk;rw[<-hk];exact h.hq),h.len,h.u64,h2,h.hq,h.ra,hx⟩
theorem DfS.put(h:DfS w W R ad cap l j pv G ar nr q cq args){i:Nat}(hi:i<6)(x:Int)(hx:gA x):DfS w (W.setCell ⟨q,i,none⟩ (.int .u64 x)) R ad cap l j pv G ar nr q cq (args.set i x):=by
 have h1:=h.lt;have h2:=h.hG;have h3:=(h.own.lt q rfl).1;exact⟨h.rd.tG q i (by omega) _,jT h.gr (by omega) _ _,h1,by rw[eY (by omega)];exact h.pc,h.box.sW (Ne.symm h.hq),h.ans.sW (by omega),Bd x h.own (by rw[h.len];exact hi),by rw[aK];exact h.len,fun y hy=>by
  rcases cQ hy with h4|h4
  ·exact h.u64 y h4
  rw[h4];exact hx,h2,h.hq,h.ra,h.rn⟩
theorem DfS.cell(h:DfS w W R ad cap l j pv G ar nr q cq args){i:Nat}(hi:i<6):W.cell? ⟨q,i,none⟩=some (.int .u64 (args.getD i 0))∧W.frozen? ⟨q,i,none⟩=false∧gA (args.getD i 0):=by
 have hlt:i<args.length:=by rw[h.len];exact hi
 have hm:gA (args.getD i 0):=by rw[aa,ag hlt];exact h.u64 _ (aI hlt)
 have hown:=h.own;obtain⟨h0,h1|⟨g',cap,cur,e,hb,hg,hn,hm',hs,hx⟩⟩:=hown
 ·cases h1.1
 simp only[bs,bz,Addr.mk.injEq]at e;obtain⟨⟨rfl,_,_⟩,_,rfl⟩:=e;have hc:=h.own.cells rfl i (.int .u64 (args.getD i 0)) (by rw[cJ,ag hlt,aa,ag hlt];rfl);rw[kn,aC]at hc;exact⟨hc,by simp[World.frozen?,hg],hm⟩
def ql(w:World)(R:Nat)(ad:Option Addr)(cap:Nat)(l:List Int)(X:C×Nat)(e:Ending)(w':World):Prop:=∃(q cq:Nat),e=.returned (.agg #[.int .u32 X.1.et,.int .u32 X.1.nr,.slice (some ⟨q,0,none⟩) 6 cq])∧iq w' w.heap.size (.slice (some ⟨q,0,none⟩) 6 cq) X.1.args∧X.1.args.length=6∧X.1.ok∧Rd w' R ad cap l X.2∧w.grownBy w' (some R)
theorem DfS.fin(h:DfS w W R ad cap l j pv G ar nr q cq args)(x y z:Value):ql w R ad cap l (⟨ar,nr,args⟩,j) (.returned (.agg #[.int .u32 ar,.int .u32 nr,.slice (some ⟨q,0,none⟩) 6 cq])) (((W.setCell ⟨w.heap.size+1,0,none⟩ x).setCell ⟨w.heap.size+1,1,none⟩ y).setCell ⟨w.heap.size+1,2,none⟩ z):=by
 have h1:=h.lt;have h3:=(h.own.lt q rfl).1;have hn:∀k,(Value.slice (some ⟨q,0,none⟩) 6 cq).ownBlock=some k->k≠w.heap.size+1:=fun k hk=>by simp[Value.ownBlock]at hk;omega
 refine⟨q,cq,rfl,qT (gJ (gJ (gJ h.own hn) hn) hn) (by omega),h.len,⟨h.ra.1,h.ra.2,h.rn.1,h.rn.2,h.u64⟩,((h.rd.tG _ 0 (by omega) _).tG _ 1 (by omega) _).tG _ 2 (by omega) _,jT (jT (jT h.gr (by omega) _ _) (by omega) _ _) (by omega) _ _⟩
end
def sM(x:K)(v:Int):Int:=
 if x.kind=1 then bits .or .u64 (x.b:Int) (bits .andNot .u64 v (x.a:Int))
 else if x.kind=2 then
  if v%4=1 then(x.b:Int)else if v%4=2∧x.a<x.b then(x.a:Int)+1 else if v%4=3 then((x.a:Int)+((x.b:Int)-(x.a:Int))%18446744073709551616/2)%18446744073709551616 else(x.a:Int)
 else v
theorem Cd{x:K}(hx:x.ok){v:Int}(hv:gA v):gA (sM x v):=by
 obtain⟨_,h1,h2⟩:=hx;have hb:=fT .or (x.b:Int) (bits .andNot .u64 v (x.a:Int));unfold gA at*;unfold sM;split
 ·exact hb
 split
 ·split
  ·omega
  split
  ·omega
  split
  ·omega
  omega
 exact hv
def forA(l:List Int)(r:List K)(args:List Int)(j:Nat):Nat->List Int×Nat
 |0=>(args,j)
 |i+1=>((forA l r args j i).1.set i (sM (r.getD i K.zero) (j9 l (forA l r args j i).2)),k9 l (forA l r args j i).2)
def tK(l:List Int)(n:Nat)(j:Nat):Nat:=(l.getD j 0%(n:Int)).toNat
def tS(x:Int):Int:=(x+1)%4294967296
def forE(l:List Int)(k ar nr:Int)(X:List Int×Nat):C×Nat:=
 if k<6 then(⟨ar,nr,X.1.set (tK l 6 X.2) (l8 (X.1.getD (tK l 6 X.2) 0) l (X.2+1))⟩,qD l (X.2+1))else(⟨ar,nr,X.1⟩,X.2)
def BT(l:List Int)(k ar nr:Int)(rs:List (List K))(args:List Int)(j:Nat):C×Nat:=
 if rs=[]then(⟨ar,nr,args⟩,j)
 else forE l k ar nr (forA l (rs.getD (tK l rs.length j) []) args (j+1) (min 6 (rs.getD (tK l rs.length j) []).length))
def forF(l:List Int)(k:Int)(e:E)(args:List Int)(j:Nat):C×Nat:=
 BT l k (if k=2 then tS e.et else e.et) (if k=1 then tS e.nr else e.nr) e.rules args j
def oq(l:List Int)(P:List E)(j:Nat):C×Nat:=
 if P.length=0∨l.getD j 0%10=0 then(mN l (j+1),oH l (j+1))
 else forF l (l.getD j 0%10) (P.getD (tK l P.length (oH l (j+1))) E.zero) (mN l (j+1)).args (oH l (j+1)+1)
end Go.Proofs.YtdihdapmphkhpaaGreat
namespace Go.Proofs.YtdihdapmphkhpaaGreat
open Go.RowKit
variable{W:World}{act:Act}
def xU(A:Act)(R:World->Prop):Exit->Act->World->Prop
 |.normal,act,W=>act=A∧R W
 |_,_,_=>False
theorem xU.mk{A:Act}{R:World->Prop}(h1:act=A)(h2:R W):xU A R .normal act W:=⟨h1,h2⟩
theorem wp_cut{P:Program}{c:Code}{Q:Exit->Act->World->Prop}{a:Act}{w:World}{A:Act}{R:World->Prop}(h:c.wp P (xU A R) a w)(k:∀W',R W'->Q Exit.normal A W'):c.wp P Q a w:=
 Code.wp_mono (fun ex act W' h=>by
  cases ex with
  |normal=>obtain⟨h2,h3⟩:=h;subst h2;exact k W' h3
  |_=>exact False.elim h) h
def CutE3(A:Nat->Option Addr->Nat->Act)(R:Nat->Option Addr->Nat->World->Prop):Exit->Act->World->Prop
 |.normal,act,W=>∃x y z,act=A x y z∧R x y z W
 |_,_,_=>False
theorem CutE3.mk{A:Nat->Option Addr->Nat->Act}{R:Nat->Option Addr->Nat->World->Prop}(x:Nat)(y:Option Addr)(z:Nat)(h1:act=A x y z)(h2:R x y z W):CutE3 A R .normal act W:=⟨x,y,z,h1,h2⟩
def vE(A:Nat->Act)(R:Nat->World->Prop):Exit->Act->World->Prop
 |.normal,act,W=>∃x,act=A x∧R x W
 |_,_,_=>False
theorem vE.mk{A:Nat->Act}{R:Nat->World->Prop}(x:Nat)(h1:act=A x)(h2:R x W):vE A R .normal act W:=⟨x,h1,h2⟩
theorem zt{P:Program}{c:Code}{Q:Exit->Act->World->Prop}{a:Act}{w:World}{A:Nat->Act}{R:Nat->World->Prop}(h:c.wp P (vE A R) a w)(k:∀x W',R x W'->Q Exit.normal (A x) W'):c.wp P Q a w:=
 Code.wp_mono (fun ex act W' h=>by
  cases ex with
  |normal=>obtain⟨x,h2,h3⟩:=h;subst h2;exact k x W' h3
  |_=>exact False.elim h) h
end Go.Proofs.YtdihdapmphkhpaaGreat
namespace Go.Proofs.YtdihdapmphkhpaaGreat
open Go.RowKit Go.Deep
variable{w:World}
theorem DfS.other{W:World}{R cap j G q cq:Nat}{ad:Option Addr}{l args:List Int}{pv:Value}{ar nr:Int}(h:DfS w W R ad cap l j pv G ar nr q cq args){D:Nat}(hD:w.heap.size+1<D)(hDG:G≠D)(hDq:q≠D)(i:Nat)(u:Value):DfS w (W.setCell ⟨D,i,none⟩ u) R ad cap l j pv G ar nr q cq args:=by
 have h1:=h.lt;have h2:=h.hG;exact⟨h.rd.tG D i (by omega) _,jT h.gr (by omega) _ _,h1,by rw[eY (by omega)];exact h.pc,h.box.sW hDG,h.ans.sW (by omega),gJ h.own (fun k hk=>by simp[Value.ownBlock]at hk;rw[<-hk];exact hDq),h.len,h.u64,h2,h.hq,h.ra,h.rn⟩
theorem fY.put3{g:Nat}{x y z:Value}(h:fY w g x y z)(x' y' z':Value):fY (((w.setCell ⟨g,0,none⟩ x').setCell ⟨g,1,none⟩ y').setCell ⟨g,2,none⟩ z') g x' y' z':=((h.set0 x').set1 y').set2 z'
theorem oD{B R:Nat}{W:World}(hg:w.grownBy W (some R))(hRB:R<B):iT B w W:=⟨hg.size,fun k hk hlt=>hg.block k hlt (by simp;omega)⟩
end Go.Proofs.YtdihdapmphkhpaaGreat
