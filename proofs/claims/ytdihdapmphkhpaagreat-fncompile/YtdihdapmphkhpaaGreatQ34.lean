import Derived.Test.YtdihdapmphkhpaaGreatQ33
set_option linter.all false
set_option maxRecDepth 200000
set_option maxHeartbeats 16000000
namespace Go.Proofs.YtdihdapmphkhpaaGreat
open Go.RowKit
theorem zX(p:List E)(a:Option Addr)(cap:Nat)(w:World)(hs:eS 3 PE w a p)(ho:okP p)(hv:eW p=true)(hn:p.length<=1000):
 Calls Tryz.prog 8 #[.agg #[.slice a p.length cap]] w fun e w'=>tz p w e w':=by
 obtain⟨i0,hi,hz0,hz1,hz2⟩:=info_parts F8;have hlen:∀e∈p,e.rules.length<=200∧∀r∈e.rules,r.length=6:=by
  intro e he;obtain⟨i,hi,rfl⟩:=bH he;have e1:p.getD i E.zero=p[i]:=by rw[aa,ag hi];rfl
  have h1:=gZ (gY hv hi).1;rw[e1]at h1;exact⟨h1.2.1,fun r hr=>(C1 ((ho _ he).2.2 r hr) (h1.2.2 r hr)).1⟩
 have HV:Hid (∀wr,Below w.heap.size w wr->Calls Tryz.prog 5 #[.agg #[.slice a p.length cap]] wr fun e w'=>e=.returned (.bool true)∧Below wr.heap.size wr w'):=fun wr hb=>by
  have:=km p a cap wr (hs.below PE.stays hb) ho (by omega) (fun e he=>by have:=(hlen e he).1;omega) (fun e he r hr=>by have:=(hlen e he).2 r hr;omega);rw[hv]at this;exact this
 have HP:Hid (∀wr,Below w.heap.size w wr->∀i,i<p.length->∃b o,a=some ⟨b,o,none⟩∧b<wr.heap.size∧PE wr b (o+i*3) (p.getD i E.zero)):=fun wr hB i hi=>(hs.below PE.stays hB).at hi E.zero
 have HSm:Hid (∀i wr a' cap',i<p.length->eS 1 PR wr a' (p.getD i E.zero).rules->Calls Tryz.prog 24 #[.slice a' (p.getD i E.zero).rules.length cap'] wr fun e w'=>xY (p.getD i E.zero).rules wr e w'):=fun i wr a' cap' hi' h=>yV _ a' cap' wr h (pj hv ho hi') (by have:=(gZ (gY hv hi').1).2.1;omega)
 clear hs ho hv hlen;have B2:Below w.heap.size w ((w.alloc (.cells #[.slice a p.length cap] 25)).alloc (.cells #[.slice none 0 0] 25)):=((af _ _).alloc (ae _) _).alloc (by simp) _;have q0:=nZ (w.alloc (.cells #[.slice a p.length cap] 25)) 25 (.slice none 0 0);have q2:((w.alloc (.cells #[.slice a p.length cap] 25)).alloc (.cells #[.slice none 0 0] 25)).frozen? ⟨(w.alloc (.cells #[.slice a p.length cap] 25)).heap.size,0,none⟩=false:=by simp
 rw[show(w.alloc (.cells #[.slice a p.length cap] 25)).heap.size=w.heap.size+1 by simp]at q0 q2;have q1:((w.alloc (.cells #[.slice a p.length cap] 25)).alloc (.cells #[.slice none 0 0] 25)).cell? ⟨w.heap.size,0,none⟩=some (.slice a p.length cap):=eh ((af _ _).alloc (ae _) _) (nZ w 25 (.slice a p.length cap));obtain⟨n,hpn⟩:∃n,p.length=n:=⟨_,rfl⟩;have HPn:Hid (p.length=n):=hpn;rw[hpn]at HV HP HSm B2 q0 q1 q2 hn⊢;clear hpn;go_enter Tryz.func8,Tryz.ntmps8;go_wp2_with fail;generalize(w.alloc (.cells #[.slice a n cap] 25)).alloc (.cells #[.slice none 0 0] 25)=W2 at*;refine(HV.out W2 B2).mono ?_;rintro _ w1⟨rfl,hb1⟩;have B1:=eo hb1 B2;have c1:=eh hb1 q1;have c0:=eh hb1 q0;have f0:w1.frozen? ⟨w.heap.size+1,0,none⟩=false:=(hb1.frozen (p:=⟨w.heap.size+1,0,none⟩) (ib q0)).trans q2;have hG:w.heap.size+2<=w1.heap.size:=by have:=ib c0;simp only at this;omega
 clear q0 q1 q2 hb1 B2 HV;have T0:=BR.new 53 3 w1 25;go_wp2_with fail;generalize w1.alloc (.cells #[.slice none 0 0] 25)=W3 at*;go_loopw [4](fun i wr=>∃(k:Nat)(v:Value)(os:List (E×Value)),k<=n∧i=.int .i64 k∧BR 53 3 w1 wr v k (os.flatMap rk)∧Hid (∀q∈os,nm w1.heap.size wr v q)∧Hid (yT p (os.map Prod.fst) k))(fun i _=>n-(intOf i).toNat)
 case atStart=>exact⟨0,_,[],by omega,rfl,T0,fun q hq=>by simp at hq,⟨rfl,fun i hi=>by omega⟩⟩
 case round=>
  clear T0;obtain⟨k,v,os,hk,rfl,hT,HG,HM⟩:=hrel;rename World=>W4
  have hB4:=eo hT.b B1;have c14:=eh hT.b c1;by_cases hkn:k<n
  ·obtain⟨b,o,rfl,hlt,d0,d1,a',cap',d2,hls⟩:=HP.out W4 hB4 k hkn;have hkn':(k:Int)<(n:Int):=by omega
   have HSk:Hid (∀wr,eS 1 PR wr a' (p.getD k E.zero).rules->Calls Tryz.prog 24 #[.slice a' (p.getD k E.zero).rules.length cap'] wr fun e w'=>xY (p.getD k E.zero).rules wr e w'):=fun wr h=>HSm.out k wr a' cap' hkn h
   have HMn:Hid (∀rs,iI (p.getD k E.zero).rules rs->yT p (os.map Prod.fst++[⟨(p.getD k E.zero).et,(p.getD k E.zero).nr,rs⟩]) (k+1)):=fun rs h=>HM.out.next rfl rfl h
   have hol:os.length=k:=by have:=HM.out.1;rw[aX]at this;exact this
   clear HP HSm HM;generalize p.getD k E.zero=en at*;obtain⟨ar,nr,rs0⟩:=en;simp only at d0 d1 d2 hls HSk HMn;generalize rs0.length=rl at*;have hb5:Below W4.heap.size W4 (W4.alloc (.cells #[.int .u32 ar,.int .u32 nr,.slice a' rl cap'] 53)):=(af _ _).alloc (ae _) _;have X5:=gu.new W4 53 (.int .u32 ar) (.int .u32 nr) (.slice a' rl cap');have hT5:=hT.ey hb5;have hls5:=hls.below PR.stays hb5;have hvl:w1.heap.size<W4.heap.size:=ib hT.c;have hG5:∀q∈os,nm w1.heap.size (W4.alloc (.cells #[.int .u32 ar,.int .u32 nr,.slice a' rl cap'] 53)) v q:=fun q hq=>(HG.out q hq).far hb5.size (fun q _ hq2 _=>hb5.block q hq2) (fun q hq=>.inl hq)
   obtain⟨av,cv,rfl⟩:=rK hT.own;clear hT hls hb5 HG hB4;go_wp2_with fail;generalize hW5:W4.alloc (.cells #[.int .u32 ar,.int .u32 nr,.slice a' rl cap'] 53)=W5 at*;have hs5:W5.heap.size=W4.heap.size+1:=by rw[<-hW5];simp
   clear hW5;have hcd:W5.drew.cell? ⟨w1.heap.size,0,none⟩=some (.slice av k cv):=hT5.c;have xd0:W5.drew.cell? ⟨W4.heap.size,0,none⟩=some (.int .u32 ar):=X5.c0;have xd1:W5.drew.cell? ⟨W4.heap.size,1,none⟩=some (.int .u32 nr):=X5.c1;have xd2:W5.drew.cell? ⟨W4.heap.size,2,none⟩=some (.slice a' rl cap'):=X5.c2;have hlsd:eS 1 PR W5.drew a' rs0:=hls5.below PR.stays (af _ _).drew;have hT5d:=hT5.ey (af _ _).drew;have hsd:W5.drew.heap.size=W5.heap.size:=rfl;have HSk2:Hid (Calls Tryz.prog 24 #[.slice a' rl cap'] W5.drew fun e w'=>∃a9 m9 c9,e=.returned (.slice a9 m9 c9)∧(∃rs,m9=rs.length∧rs.length<=c9∧RsI W5.heap.size w'.heap.size w' a9 rs∧yT p (os.map Prod.fst++[⟨ar,nr,rs⟩]) (k+1))∧Below W5.drew.heap.size W5.drew w'):=(HSk.out W5.drew hlsd).mono (by
    rintro e w'⟨v9,os9,rfl,h1,h2,h3⟩
    obtain⟨a9,c9,rfl,h4,h5⟩:=h2.rsI
    exact⟨a9,_,c9,rfl,⟨os9.map Prod.fst,by rw[aX],by rw[aX];exact h5,h4,HMn.out _ h1⟩,h3⟩)
   have SKc:Hid (∀w9,Below W5.drew.heap.size W5.drew w9->BR 53 3 w1 w9 (.slice av k cv) k (os.flatMap rk)∧w9.cell? ⟨w1.heap.size,0,none⟩=some (.slice av k cv)∧w1.heap.size<w9.heap.size∧(∀ob,(w9.alloc ob).cell? ⟨w1.heap.size,0,none⟩=some (.slice av k cv))∧w9.cell? ⟨W4.heap.size,0,none⟩=some (.int .u32 ar)∧w9.cell? ⟨W4.heap.size,1,none⟩=some (.int .u32 nr)):=fun w9 hb=>by
    have:=hT5d.ey hb;exact⟨this,this.c,ib this.c,fun ob=>eh ((af _ _).alloc (ae _) ob) this.c,eh hb xd0,eh hb xd1⟩
   have HEM:Hid (∀a9 m9 c9 gg cap2(w9 w1':World)o x,Below W5.drew.heap.size W5.drew w9->(∃rs,m9=rs.length∧rs.length<=c9∧RsI W5.heap.size w9.heap.size w9 a9 rs∧yT p (os.map Prod.fst++[⟨ar,nr,rs⟩]) (k+1))->(w9.alloc o).grownBy w1' (Value.slice av k cv).ownBlock->((Value.slice av k cv).ownBlock=some gg∨gg=w9.heap.size+1)->w1'.ownsRow (w1.heap.size+1) 53 3 (.slice (some ⟨gg,0,none⟩) (k+1) cap2) (k+1) (os.flatMap rk++[.int .u32 ar,.int .u32 nr,.slice a9 m9 c9])->∃os':List (E×Value),(∀q∈os',nm w1.heap.size (w1'.setCell ⟨w1.heap.size,0,none⟩ x) (.slice (some ⟨gg,0,none⟩) (k+1) cap2) q)∧yT p (os'.map Prod.fst) (k+1)∧os.flatMap rk++[.int .u32 ar,.int .u32 nr,.slice a9 m9 c9]=os'.flatMap rk):=by
    rintro a9 m9 c9 gg cap2 w9 w1' o x hb⟨rs,rfl,hcr,hr,hm⟩hg hat hown;have hsz:=hb.size;refine⟨os++[(⟨ar,nr,rs⟩,.slice a9 rs.length c9)],Ia (w:=W5.drew) (fun q hq=>(hG5 q hq).far (ae _) (fun _ _ _ _=>rfl) (fun _ h=>.inl h)) hb ⟨W5.heap.size,w9.heap.size,a9,c9,rfl,hr,by omega,ae _,fun q hq=> ?_,hcr⟩ hg hat,by rw[bL];exact hm,by rw[bY];simp[rk]⟩;have:=(hT5.own.lt q hq).2;left;exact this
   have hbm:k+1<=maxLen:=by unfold maxLen;omega
   have hbd:(k+1)*32<=140737488355328:=by omega
   clear hT5 X5 hls5 hlsd HSk HMn d0 d1 d2 hG5 c14 hT5d;go_region_law(first
    |(go_simp;refine HSk2.out.mono ?_;rintro _ w9⟨a9,m9,c9,rfl,hrs9,hb9⟩;obtain⟨hS9,hc9,hl9,ha9,y0,y1⟩:=SKc.out w9 hb9;dsimp only)
    |(refine step_append_lies _ (by rfl) _ _ _ (by rfl) (w1.heap.size+1) 53 i0 _ 3 32 Tryz.underlying23 hi hz0 hz1 hz2 rfl (by omega) (.slice av k cv) k (os.flatMap rk) (by rfl) (hS9.own.alloc _) ⟨w9.heap.size,0,none⟩ 1 1 [.int .u32 ar,.int .u32 nr,.slice a9 m9 c9] (by rfl) (by rfl) (World.news_of_block (t:=53) (fr:=(0,0)) (heap_alloc_new w9 _)) (by simp[Value.oneCell']) (by omega) hbm hbd (by simp;omega) (w9.heap.size+1) (by simp) ?_;intro gg cap2 w1' hown1 hgrow hat hlt2;obtain⟨os',y2,y3,y4⟩:=HEM.out a9 m9 c9 gg cap2 w9 w1' _ (.slice (some ⟨gg,0,none⟩) (k+1) cap2) hb9 hrs9 hgrow hat hown1;obtain⟨x1,x2,x3⟩:=(hS9.ey ((af _ _).alloc (ae _) _)).next hown1 hgrow;rw[y4]at x3))
   all_goals
    have HX3:Hid _:=x3;have HG9:Hid _:=y2;have HM9:Hid _:=y3;clear x1 x2 x3 y2 y3 y4 hown1 hgrow hat hlt2 hS9 hc9 hl9 ha9 hb9 SKc HSk2 y0 y1 hcd xd0 xd1 xd2 hrs9 HEM;go_wp2;go_roundw
    case rel=>exact⟨k+1,_,os',by omega,by go_num,HX3.out,HG9.out,HM9.out⟩
    case measure=>simp[intOf];omega
  have hk':k=n:=by omega
  subst hk';have hlt':¬(k:Int)<(k:Int):=by omega
  have hol:os.length=k:=by have:=HM.out.1;rw[aX]at this;exact this
  obtain⟨av,cv,rfl,hsE,_⟩:=zT hT.own hol.symm HG.out;have hc:=hT.c;have c04:=eh hT.b c0;have f04:W4.frozen? ⟨w.heap.size+1,0,none⟩=false:=(hT.b.frozen (p:=⟨w.heap.size+1,0,none⟩) (ib c0)).trans f0;have HF:Hid (tz p w (.returned (.agg #[.slice av k cv])) (W4.setCell ⟨w.heap.size+1,0,none⟩ (.slice av k cv))):=by
   have hG':∀q∈os,nm w1.heap.size (W4.setCell ⟨w.heap.size+1,0,none⟩ (.slice av k cv)) (.slice av k cv) q:=fun q hq=>(HG.out q hq).far (by simp[World.setCell]) (fun q hq1 hq2 _=>by simp only[World.setCell,aH];rw[if_neg (by omega)]) (fun q hq=>.inl hq)
   have hO':(W4.setCell ⟨w.heap.size+1,0,none⟩ (.slice av k cv)).ownsRow (w1.heap.size+1) 53 3 (.slice av k cv) k (os.flatMap rk):=vV hT.own (fun q hq=>by
    have:=(hT.own.lt q hq).1
    simp only[World.setCell,aH];rw[if_neg (by omega)])
   obtain⟨a5,c5,e5,hs5,hcv⟩:=zT hO' hol.symm hG'
   cases e5;have hlo:(os.map Prod.fst).length=k:=by rw[aX];exact hol
   refine⟨av,cv,os.map Prod.fst,⟨hlo.trans HPn.out.symm,fun i hi=>HM.out.2 i (by rw[HPn.out]at hi;exact hi)⟩,by rw[hlo],PEC.uq hs5,hB4.setCell (p:=⟨w.heap.size+1,0,none⟩) (show w.heap.size<=w.heap.size+1 by omega) _,hs5,by rw[hlo];exact hcv⟩
  clear hT HG HM HP HSm hsE hB4;go_wp2;exact bodyPost_ret (v:=.agg #[.slice av k cv]) (by simp[results,Tryz.results8,go_sem,c04]) rfl HF.out
end Go.Proofs.YtdihdapmphkhpaaGreat
