import Derived.Test.YtdihdapmphkhpaaGreatQ44
import Derived.Test.YtdihdapmphkhpaaGreatQ45
set_option linter.all false
set_option maxRecDepth 200000
set_option maxHeartbeats 16000000
namespace Go.Proofs.YtdihdapmphkhpaaGreat
open Go.RowKit
def rT(l:List It)(w:World)(e:Ending)(w':World):Prop:=∃v,e=.returned (.tuple #[v,.int .i64 (qz l)])∧gS w' w.heap.size v (qq l)∧Below w.heap.size w w'
theorem Ii(l:List It)(a:Option Addr)(cap:Nat)(w:World)(s0:List I×Mk)(hs:TSrc w a l)(ho:∀x∈l,x.ok)(hl:lC l=some s0)(hn:l.length<=1000000):
 Calls Tryz.prog 22 #[.slice a l.length cap] w fun e w'=>rT l w e w':=by
 obtain⟨i1,hi1,hy0,hy1,hy2⟩:=info_parts AX;have HL:Hid (Calls Tryz.prog 43 #[.slice a l.length cap] w fun e w'=>sP l w e w'):=Fv l a cap w s0 hs ho hl hn;have HBig:Hid (∀k ms st,LdJ l k ms st->4096<st.1.length->qz l=10∧qq l=[]):=fun k ms st h h4=>by
  obtain⟨t,h1,h2⟩:=wU hl k;rw[h.lay]at h1
  cases h1;exact G5 hl (by omega)
 have HOk:Hid (∀ms st,LdJ l 0 ms st->¬4096<st.1.length->qz l=0∧qq l=st.1.reverse):=fun ms st h h4=>by
  have h1:=h.lay;rw[List.drop_zero]at h1;exact Il h1 (by omega)
 have HPo:Hid (∀v w',gS w' w.heap.size v (qq l)->Below w.heap.size w w'->rT l w (.returned (.tuple #[v,.int .i64 (qz l)])) w'):=fun v w' h1 h2=>⟨v,rfl,h1,h2⟩
 clear hs ho hl s0;generalize l.length=n at*;go_enter Tryz.func22,Tryz.ntmps22;go_wp2_with fail;refine(HL.out).mono ?_;rintro _ w1⟨v,k,ms,st,rfl,hO,hLd,hk,hb1⟩;obtain⟨al,cl,rfl,hsr⟩:=j4 hO;by_cases h4:4096<st.1.length
 ·obtain⟨e1,e2⟩:=HBig.out k ms st hLd h4;rw[e1,e2]at HPo;have HPv:Hid (rT l w (.returned (.tuple #[.slice none 0 0,.int .i64 10])) w1):=HPo.out _ w1 (aZ _ _ _ _) hb1;have h4':(4096:Int)<(st.1.length:Int):=by omega
  clear HBig HOk HPo HL hO hLd hsr hk e1 e2;generalize st.1.length=ln at*;go_wp2;exact bodyPost_ret (v:=.tuple #[.slice none 0 0,.int .i64 10]) (by simp[results,Tryz.results22,go_sem]) rfl HPv.out
 have hk0:k=0:=by omega
 subst hk0;obtain⟨e1,e2⟩:=HOk.out ms st hLd h4;rw[e1,e2]at HPo;have h4':¬(4096:Int)<(st.1.length:Int):=by omega
 have hl4:st.1.length<=4096:=by omega
 clear HBig HOk HL hO hLd hk e1 e2 h4;generalize st.1=p at*;have HR:Hid (∀k,k<p.length->(p.drop k).reverse=(p.drop (k+1)).reverse++[p.getD k I.zero]):=fun k hk=>GF hk
 have HR0:Hid ((p.drop 0).reverse=p.reverse):=rfl;have HRn:Hid ((p.drop p.length).reverse=[]):=by show _=_;rw[dC];rfl
 have HRl:Hid (∀k,(p.drop k).reverse.length=p.length-k):=fun k=>by rw[dc,bK]
 have HS:Hid (∀wr,Below w1.heap.size w1 wr->∀i,i<p.length->∃b o,al=some ⟨b,o,none⟩∧b<wr.heap.size∧wr.cell? ⟨b,o+i*4,none⟩=some (.int .u16 (p.getD i I.zero).c)∧wr.cell? ⟨b,o+i*4+1,none⟩=some (.int .u8 (p.getD i I.zero).jt)∧wr.cell? ⟨b,o+i*4+2,none⟩=some (.int .u8 (p.getD i I.zero).jf)∧wr.cell? ⟨b,o+i*4+3,none⟩=some (.int .u32 (p.getD i I.zero).k)):=fun wr hb i hi=>(hsr.below hb).at hi
 clear hsr;obtain⟨pr,hpr⟩:∃pr:Nat->List I,∀k,(p.drop k).reverse=pr k:=⟨_,fun _=>rfl⟩;simp only[hpr]at HR HR0 HRn HRl;generalize p.reverse=prev at*;generalize hpl:p.length=pn at*;clear hpl hpr;have hwn:IntKind.i64.wrap ((pn:Int)-1)=(pn:Int)-1:=by rw[aT];omega
 go_wp2_with fail;go_loopw [5,6](fun so' i wr=>∃(k:Nat)(so:Value),k<=pn∧i=.int .i64 ((k:Int)-1)∧so=so'∧gS wr w1.heap.size so (pr k)∧Below w1.heap.size w1 wr)(fun _ i _=>(intOf i+1).toNat)
 case atStart=>exact⟨pn,_,by omega,by first|rfl|go_num,rfl,by rw[HRn.out];exact aZ _ _ _ _,af _ _⟩
 case round=>
  obtain⟨k,so,hk,rfl,hss,hOI,B⟩:=hrel;subst hss;rename World=>W0
  by_cases hk0:0<k
  ·obtain⟨k',rfl⟩:∃k',k=k'+1:=⟨k-1,by omega⟩;have hk':((k'+1:Nat):Int)-1=(k':Int):=by omega
   rw[hk'];have hkn:(k':Int)<(pn:Int):=by omega
   have hkN:k'<pn:=by omega
   have hw2:IntKind.i64.wrap ((k':Int)-1)=(k':Int)-1:=by rw[aT];omega
   obtain⟨b,o,rfl,hlt,c0,c1,c2,c3⟩:=HS.out W0 B k' hkN;have HRk:Hid (pr k'=pr (k'+1)++[p.getD k' I.zero]):=HR.out k' hkN;have hrl:=HRl.out (k'+1);generalize p.getD k' I.zero=x at*;obtain⟨c,jt,jf,ik⟩:=x;simp only at c0 c1 c2 c3;have hsz:=B.size;have hbs:w1.heap.size<=(W0.alloc (.cells #[.int .u16 c,.int .u8 jt,.int .u8 jf,.int .u32 ik] 68)).heap.size:=by simp;omega
   have hbm:(pr (k'+1)).length+1<=maxLen:=by unfold maxLen;omega
   have hbd:((pr (k'+1)).length+1)*8<=140737488355328:=by omega
   clear HR HR0 HRn HRl HS HPo;go_wp2_with(at_builtin;refine wpList_append_own _ rfl (.tmp 19) (.tmp 24) 34 rfl (w1.heap.size) 68 i1 _ 4 8 Tryz.underlying34 hi1 hy0 hy1 hy2 rfl (by decide) so (pr (k'+1)).length (ff (pr (k'+1))) rfl (bh hOI _) ⟨W0.heap.size,0,none⟩ 1 1 [.int .u16 c,.int .u8 jt,.int .u8 jf,.int .u32 ik] rfl rfl (iZ (by simp)) (by simp[Value.oneCell']) hbm hbd hbs ?_);intro v9 w9 ow gr _;have p9:gS w9 w1.heap.size v9 (pr (k'+1)++[⟨c,jt,jf,ik⟩]):=iG (by omega) ow;have B9:Below w1.heap.size w1 w9:=(B.alloc hsz _).grown gr hbs (fun t ht=>(bO hOI t ht).1);rw[<-HRk.out]at p9;clear ow gr hOI B c0 c1 c2 c3 hbm hbd hbs;go_wp2;go_roundw
   case rel=>exact⟨k',_,by omega,by first|rfl|go_num,rfl,p9,B9⟩
   case measure=>simp[intOf]
  have hk':k=0:=by omega
  subst hk';rw[HR0.out]at hOI;have HPv:Hid (rT l w (.returned (.tuple #[so,.int .i64 0])) W0):=HPo.out so W0 (World.ownsRow.mono hOI hb1.size) (hb1.trans (B.mono hb1.size));clear HR HR0 HRn HRl HS HPo hOI;go_wp2;exact bodyPost_ret (v:=.tuple #[so,.int .i64 0]) (by simp[results,Tryz.results22,go_sem]) rfl HPv.out
theorem zS(p:List E)(a:Option Addr)(cap:Nat)(w:World)(hs:eS 3 PEC w a p)(hcap:p.length<=cap)(ho:okP p)(hn:p.length<=16777216)(hm:∀e∈p,e.rules.length<=16777216)(hr:∀e∈p,∀r∈e.rules,r.length<=16777216):
 Calls Tryz.prog 7 #[.agg #[.slice a p.length cap]] w fun e w'=>iW p w e w':=by
 have HV:Hid (∀w1,Below w.heap.size w w1->Calls Tryz.prog 5 #[.agg #[.slice a p.length cap]] w1 fun e w'=>e=.returned (.bool (eW p))∧Below w1.heap.size w1 w'):=fun w1 hb=>km p a cap w1 ((PEC.uq hs).below PE.stays hb) ho hn hm hr
 have HNo:Hid (eW p=false->∀w1,Below w.heap.size w w1->iW p w (.returned (.tuple #[.slice none 0 0,.int .i64 1])) w1):=fun h w1 hb=>by
  refine⟨.slice none 0 0,?_,?_,hb⟩
  ·unfold vS;rw[if_neg (by rw[h];decide)]
  unfold ky;rw[if_neg (by rw[h];decide)];exact aZ _ _ _ _
 have HP:Hid (eW p=true->∀w2,Below w.heap.size w w2->Calls Tryz.prog 23 #[.agg #[.slice a p.length cap]] w2 fun e w'=>∃a3 n3 c3,e=.returned (.slice a3 n3 c3)∧Calls Tryz.prog 22 #[.slice a3 n3 c3] w' fun e w''=>∃v c,e=.returned (.tuple #[v,c])∧iW p w (.returned (.tuple #[v,c])) w''):=fun hv w2 hb=>by
  obtain⟨h1,h2,h3,h4⟩:=sS hv ho;have h5:=DH hv;refine(Am p a cap w2 (hs.below PEC.stays hb) hcap h1 h5 h4 h3).mono ?_;rintro e w'⟨v',rfl,hO,hb2⟩;obtain⟨a3,c3,rfl,_,ht⟩:=wZ hO;have hb':Below w.heap.size w w':=eo hb2 hb;have hl:=BK p h1;obtain⟨⟨s0,hs0⟩,e1,e2⟩:=Co p;refine⟨a3,_,c3,rfl,(Ii (js p) a3 c3 w' s0 ht (DK p h1 h2 (by omega)) hs0 (by omega)).mono ?_⟩;rintro e w''⟨v,rfl,ho',hb''⟩;refine⟨v,_,rfl,v,?_,?_,eo hb'' hb'⟩
  ·unfold vS;rw[if_pos hv,e1]
  unfold ky;rw[if_pos hv,<-e2];exact World.ownsRow.mono ho' hb'.size
 clear hs ho hn hm hr;generalize eW p=V at*;generalize p.length=n at*;have B0:Below w.heap.size w (w.alloc (.cells #[.slice a n cap] 25)):=(af _ _).alloc (ae _) _;have x0:(w.alloc (.cells #[.slice a n cap] 25)).cell? ⟨w.heap.size,0,none⟩=some (.slice a n cap):=by simp
 go_enter Tryz.func7,Tryz.ntmps7;go_wp2_with fail;refine(HV.out _ B0).mono ?_;rintro _ w1⟨rfl,hb1⟩;have B1:=eo hb1 B0;have x1:=eh hb1 x0;clear hb1 B0 x0 HV
 cases V with
 |false=>
  have HF:Hid (iW p w (.returned (.tuple #[.slice none 0 0,.int .i64 1])) w1):=HNo.out (by first|rfl|trivial) w1 B1;clear HNo HP B1 x1;go_wp2;exact bodyPost_ret (v:=.tuple #[.slice none 0 0,.int .i64 1]) (by simp[results,Tryz.results7,go_sem]) rfl HF.out
 |true=>
  have HQ:Hid (Calls Tryz.prog 23 #[.agg #[.slice a n cap]] w1 fun e w'=>∃a3 n3 c3,e=.returned (.slice a3 n3 c3)∧Calls Tryz.prog 22 #[.slice a3 n3 c3] w' fun e w''=>∃v c,e=.returned (.tuple #[v,c])∧iW p w (.returned (.tuple #[v,c])) w''):=HP.out (by first|rfl|trivial) _ B1;clear HNo HP B1;go_wp2_with fail;refine(HQ.out).mono ?_;rintro _ w3⟨a3,n3,c3,rfl,hL⟩;have HL:Hid (Calls Tryz.prog 22 #[.slice a3 n3 c3] w3 fun e w''=>∃v c,e=.returned (.tuple #[v,c])∧iW p w (.returned (.tuple #[v,c])) w''):=hL;clear hL HQ x1;go_wp2_with fail;refine(HL.out).mono ?_;rintro _ w4⟨v,c,rfl,hF⟩;have HF:Hid (iW p w (.returned (.tuple #[v,c])) w4):=hF;clear hF HL;go_wp2;exact bodyPost_ret (v:=.tuple #[v,c]) (by simp[results,Tryz.results7,go_sem]) rfl HF.out
end Go.Proofs.YtdihdapmphkhpaaGreat
