import Derived.Test.YtddemlfepjkgoaaGreatQ12
set_option linter.all false
set_option maxRecDepth 200000
set_option maxHeartbeats 16000000
namespace Go.Proofs.YtddemlfepjkgoaaGreat
open Go.RowKit Go.Deep
def lenU:Value->Nat
 |.slice _ n _=>n
 |_=>0
theorem l4different_any(t:List C)(a:Option Addr)(cap j:Nat)(w:World)(hs:CSrc w a t)(hc:∀c∈t,okLa c.args)(hj:j<6)(hn:t.length<=1000):
 Calls Tryz.prog 84 #[.slice a t.length cap,.int .i64 (j:Int)] w fun e w'=>∃v' d,e=.returned v'∧Diff (t.map C.args) j d∧ownsU w' w.heap.size v' d∧Below w.heap.size w w':=by
 obtain⟨i0,hi,hz0,hz1,hz2⟩:=info_parts info61;have HV:Hid (Calls Tryz.prog 86 #[.slice a t.length cap,.int .i64 (j:Int),.int .i64 (-1),.int .u64 0] w fun e w'=>∃v',e=.returned v'∧ownsU w' w.heap.size v' ((t.map C.args).map fun x=>x.getD j 0)∧Below w.heap.size w w'):=by
  have:=l4values_any t a cap j (-1) 0 w hs hc hj (by omega) (by omega) hn;rw[pickL_all _ _ (by omega)]at this;exact this
 have hll:((t.map C.args).map fun x=>x.getD j 0).length<=1000:=by rw[List.length_map,List.length_map];exact hn
 unfold Diff;generalize((t.map C.args).map fun x=>x.getD j 0)=l at*;clear hs hc;generalize t.length=nt at*;obtain⟨f,hf⟩:∃f:Nat->Int,f=fun i=>l.getD i 0:=⟨_,rfl⟩
 have HNx:Hid (∀out(b:Nat),SelG ordI l out->BestI l out l.length b->SelG ordI l (out++[f b])):=fun out b h1 h2=>by rw[hf];exact h2.next h1
 have HSk:Hid (∀out k best,BestI l out k best->¬CandI out (f k)->BestI l out (k+1) best):=fun out k best h1 h2=>h1.skip (by rw[hf]at h2;exact h2)
 have HFi:Hid (∀out k,BestI l out k (-1)->CandI out (f k)->BestI l out (k+1) k):=fun out k h1 h2=>h1.first (by rw[hf]at h2;exact h2)
 have HLt:Hid (∀out k(b:Nat),BestI l out k b->CandI out (f k)->f k<f b->BestI l out (k+1) k):=fun out k b h1 h2 h3=>h1.less (by rw[hf]at h2;exact h2) (by rw[hf]at h3;exact h3)
 have HSa:Hid (∀out k(b:Nat),BestI l out k b->¬f k<f b->BestI l out (k+1) b):=fun out k b h1 h3=>h1.same (by rw[hf]at h3;exact h3)
 have HDn:Hid (∀out,SelG ordI l out->BestI l out l.length (-1)->DistG ordI l out):=fun out h1 h2=>h2.done h1
 have HLe:Hid (∀out,SelG ordI l out->out.length<=l.length∧AscG ordI out):=fun out h=>⟨h.len linI,h.asc⟩
 go_enter Tryz.func84,Tryz.ntmps84;go_wp2_with fail;refine HV.out.mono ?_;rintro _ w1⟨v6,rfl,O6,B1⟩;obtain⟨a6,c6,rfl,hu⟩:=ownsU_src O6;have HU:Hid (∀wr,Below w1.heap.size w1 wr->∀k,k<l.length->∃b o,a6=some ⟨b,o,none⟩∧wr.cell? ⟨b,o+k,none⟩=some (.int .u64 (f k))):=fun wr hb k hk=>by
  obtain⟨b,o,h1,h2⟩:=usrc_at (hu.below hb) (by omega);rw[hf];exact⟨b,o,h1,h2 k hk⟩
 have h1s:=B1.size;clear O6 hu HV;obtain⟨n,hnl⟩:∃n,l.length=n:=⟨_,rfl⟩;rw[hnl]at HNx HDn HLe HU hll⊢;clear hnl hf;go_wp2_with fail;go_loopw [5](fun s' wr=>∃(s:Value)(out:List Int),s=s'∧ownsU wr w1.heap.size s out∧Hid (SelG ordI l out)∧Below w1.heap.size w1 wr)(fun s _=>n+1-lenU s)
 case atStart=>exact⟨_,[],rfl,World.ownsRow_nil _ _ _ _,SelG.nil l,Below.refl _ _⟩
 case round=>
  obtain⟨s,out,hss,O,HS,B⟩:=hrel;subst hss;rename World=>WA
  obtain⟨au,cu,rfl,hus⟩:=ownsU_src O;obtain⟨hol,hasc⟩:=HLe.out _ HS.out;have HLs:Hid (∀ot z,out=ot++[z]->∃b o,au=some ⟨b,o,none⟩∧b<WA.heap.size∧WA.cell? ⟨b,o+ot.length,none⟩=some (.int .u64 z)):=fun ot z e=>by
   obtain⟨b,o,h1,h2⟩:=usrc_at hus (by rw[e];simp);have h3:=h2 ot.length (by rw[e];simp);rw[e,List.getD_eq_getElem?_getD,List.getElem?_append_right (Nat.le_refl _)]at h3;simp at h3;exact⟨b,o,h1,cell_ltK h3,h3⟩
  have hb0:Below WA.heap.size WA WA:=Below.refl _ _;clear HLe hus;go_wp2_with fail;go_loopw [7,8](fun bt i wr=>∃(k:Nat)(best:Int),k<=n∧i=.int .i64 k∧bt=.int .i64 best∧Hid (BestI l out k best)∧Below WA.heap.size WA wr)(fun _ i _=>n-(intOf i).toNat)
  case atStart=>exact⟨0,-1,by omega,rfl,rfl,BestI.zero _ _,hb0⟩
  case round=>
   clear hb0;obtain⟨k,best,hk,rfl,rfl,HB,B0⟩:=hrel;rename World=>W0
   by_cases hkn:k<n
   ·obtain⟨b,o,rfl,ck⟩:=HU.out W0 (B.trans (B0.mono B.size)) k hkn;have hkn':(k:Int)<(n:Int):=by omega
    have HBc:Hid (∀bi:Nat,best=bi->bi<n->W0.cell? ⟨b,o+bi,none⟩=some (.int .u64 (f bi))):=fun bi _ hbi=>by
     obtain⟨b',o',e,h⟩:=HU.out W0 (B.trans (B0.mono B.size)) bi hbi
     cases e;exact h
    clear HNx HDn;rcases List.eq_nil_or_concat out with hos|⟨ot,z,hos⟩
    case' inl=>
     subst hos;have HCa:Hid (CandI [] (f k)):=candI_nil _;rw[List.length_nil];go_wp2_with fail;go_quiet(fail)
    case' inr=>
     have hos':out=ot++[z]:=by rw[hos];simp
     obtain⟨bs,os,rfl,hbs,cz⟩:=HLs.out ot z hos';have czw:=(B0.cell (p:=⟨bs,os+ot.length,none⟩) hbs).trans cz;have hlo:out.length=ot.length+1:=by rw[hos'];simp
     have hCa:CandI out (f k)↔z<f k:=by rw[hos']at hasc⊢;exact candI_snoc hasc
     rw[hlo];rw[hlo]at hol;have hol':(ot.length:Int)+1<=1000:=by omega
     by_cases hz:z<f k
     case' neg=>
      have HB2:Hid (BestI l out (k+1) best):=HSk.out _ _ _ HB.out (fun h=>hz (hCa.1 h));have hzb:(f k<=z):=by omega
      clear hCa HB HBc hos hos' HS HU HLs HSk HFi HLt HSa;generalize f k=y at*;go_wp2_with fail;go_quiet(fail);have B2:=below_drewN B0 nq;generalize W0.drewN nq=wq at*;go_wp2;go_roundw
      case rel=>exact⟨k+1,best,by omega,by go_num,rfl,HB2,B2⟩
      case measure=>simp[intOf];omega
     case' pos=>
      have HCa:Hid (CandI out (f k)):=hCa.2 hz;have hzn:¬f k<=z:=by omega
      clear hCa hos hos';go_wp2_with fail;go_quiet(fail)
    all_goals
     have B1':=below_drewN B0 nq;have ck1:(W0.drewN nq).cell? ⟨b,o+k,none⟩=some (.int .u64 (f k)):=ck;have HBc1:Hid (∀bi:Nat,best=bi->bi<n->(W0.drewN nq).cell? ⟨b,o+bi,none⟩=some (.int .u64 (f bi))):=HBc.out;clear ck B0 HBc;generalize W0.drewN nq=W1 at*;rcases HB.out.cases with hb|⟨bi,hb,hbi⟩
     ·subst hb;have HB2:=HFi.out _ _ HB.out HCa.out;have HB3:Hid _:=HB2;clear HB2 HB HCa HBc1 HS HU HLs HSk HFi HLt HSa;generalize f k=y at*;go_wp2_with fail;go_quiet(fail);have B2:=below_drewN B1' nq;generalize W1.drewN nq=wq at*;go_wp2;go_roundw
      case rel=>exact⟨k+1,k,by omega,by go_num,by go_num,HB3,B2⟩
      case measure=>simp[intOf];omega
     subst hb;have cb:=HBc1.out bi rfl (by omega);have hbn:(bi:Int)<(n:Int):=by omega
     have hb0:¬(bi:Int)<0:=by omega
     by_cases hlt:f k<f bi
     ·have HB2:=HLt.out _ _ _ HB.out HCa.out hlt;have HB3:Hid _:=HB2;clear HB2 HB HCa HBc1 HS HU HLs HSk HFi HLt HSa;generalize f k=y at*;generalize f bi=y' at*;go_wp2_with fail;go_quiet(fail);have B2:=below_drewN B1' nq;generalize W1.drewN nq=wq at*;go_wp2;go_roundw
      case rel=>exact⟨k+1,k,by omega,by go_num,by go_num,HB3,B2⟩
      case measure=>simp[intOf];omega
     have HB2:=HSa.out _ _ _ HB.out (by omega);have HB3:Hid _:=HB2;clear HB2 HB HCa HBc1 HS HU HLs HSk HFi HLt HSa;generalize f k=y at*;generalize f bi=y' at*;go_wp2_with fail;go_quiet(fail);have B2:=below_drewN B1' nq;generalize W1.drewN nq=wq at*;go_wp2;go_roundw
     case rel=>exact⟨k+1,bi,by omega,by go_num,by go_num,HB3,B2⟩
     case measure=>simp[intOf];omega
   have hk':k=n:=by omega
   subst hk';have BW:=B.trans (B0.mono B.size);have O1:=ownsU_below O B0;rcases HB.out.cases with hb|⟨bi,hb,hbi⟩
   ·subst hb;have HD:=HDn.out _ HS.out HB.out;have HD':Hid _:=HD;have BX:=B1.trans (BW.mono B1.size);have OX:=ownsU_mono O1 h1s;clear HD HDn HNx HS HB HU HLs B0 BW O O1 HSk HFi HLt HSa;go_wp2;go_ret;exact⟨_,out,rfl,HD'.out,OX,BX⟩
   subst hb;have HS2:=HNx.out _ _ HS.out HB.out;have HS3:Hid _:=HS2;obtain⟨b,o,rfl,cb⟩:=HU.out W0 BW bi hbi;have hb0:¬(bi:Int)<0:=by omega
   have hbn:(bi:Int)<(k:Int):=by omega
   have hbm:out.length+1<=maxLen:=by unfold maxLen;omega
   have hbd:(out.length+1)*8<=140737488355328:=by omega
   clear HS2 HDn HNx HS HB HU HLs O B0 B HSk HFi HLt HSa;generalize f bi=y at*;have hbs:w1.heap.size<=(W0.alloc (.cells #[.int .u64 y] 69)).heap.size:=by have:=BW.size;simp;omega
   go_wp2_with(at_builtin;refine wpList_append_own _ rfl (.tmp 51) (.tmp 56) 37 rfl w1.heap.size 69 i0 (.int .u64 0) 1 8 Tryz.underlying37 hi hz0 hz1 hz2 rfl (by decide) (.slice au out.length cu) out.length (out.map (Value.int .u64)) rfl (World.ownsRow.alloc O1 _) ⟨W0.heap.size,0,none⟩ 1 1 [.int .u64 y] rfl rfl (World.news_of_block (t:=69) (fr:=(0,0)) (heap_alloc_new W0 _)) (by simp[Value.oneCell']) hbm hbd hbs ?_);intro v9 w9 ow gr _;have o9:ownsU w9 w1.heap.size v9 (out++[y]):=by rw[ownsU,List.length_append,List.map_append];exact ow
   have B9:Below w1.heap.size w1 w9:=(BW.alloc BW.size _).grown gr hbs (fun q hq=>(World.ownsRow.lt O1 q hq).1);obtain⟨a9,c9,e9,_⟩:=ownsU_src o9;subst e9;clear ow gr O1 BW cb;go_wp2;go_roundw
   case rel=>exact⟨_,_,rfl,o9,HS3,B9⟩
   case measure=>simp[lenU];omega
theorem l3point_any(v:Int)(w:World):Calls Tryz.prog 83 #[.int .u64 v] w fun e w'=>e=.returned (.agg #[.int .i64 1,.int .u64 18446744073709551615,.int .u64 v])∧Below w.heap.size w w':=by
 go_enter Tryz.func83,Tryz.ntmps83;go_wp2;exact bodyPost_ret (v:=.agg #[.int .i64 1,.int .u64 18446744073709551615,.int .u64 v]) (by simp[results,Tryz.results83,go_sem]) rfl ⟨rfl,(Below.refl _ _).alloc (Nat.le_refl _) _⟩
theorem exactR_len(a:La):(exactR a).length=6:=by simp[exactR]
theorem exactR_take(a:La){k:Nat}(h:k<6):(exactR a).take (k+1)=(exactR a).take k++[pointK (a.getD k 0).toNat]:=by
 rw[List.take_add_one,List.getElem?_eq_getElem (by rw[exactR_len];exact h)];simp[exactR]
def RulP(rs:List Ru)(w:World)(e:Ending)(w':World):Prop:=∃v os,e=.returned v∧OwnM w.heap.size w' w.heap.size v os∧os.map Prod.fst=rs∧Below w.heap.size w w'
theorem l4rules_few(t:List C)(a:Option Addr)(cap:Nat)(ex sp f:Int)(w:World)(hs:CSrc w a t)(hc:∀c∈t,okLa c.args)(hn:t.length<=1000)(hex:(t.length:Int)<=ex):
 Calls Tryz.prog 44 #[.slice a t.length cap,.agg #[.int .i64 ex,.int .i64 sp,.int .i64 f]] w (RulP ((t.map C.args).map exactR) w):=by
 obtain⟨i0,hi,hz0,hz1,hz2⟩:=info_parts infoConM;obtain⟨i1,hi1,hy0,hy1,hy2⟩:=info_parts infoRuleM;have HC:Hid (∀wr,Below w.heap.size w wr->∀i,i<t.length->∃b o b' o' cap',a=some ⟨b,o,none⟩∧wr.cell? ⟨b,o+i*3+2,none⟩=some (.slice (some ⟨b',o',none⟩) 6 cap')∧∀q,q<6->wr.cell? ⟨b',o'+q,none⟩=some (.int .u64 ((t.getD i C.zero).args.getD q 0))):=fun wr hb i hi=>by
  obtain⟨b,o,b',o',cap',h1,_,_,_,h2,_,h3⟩:=csrc_six (hs.below hb) hc hi;exact⟨b,o,b',o',cap',h1,h2,h3⟩
 have HNn:Hid (∀i q,i<t.length->0<=(t.getD i C.zero).args.getD q 0):=fun i q hi=>((hc _ (callL_mem hi)).lt q).2
 have HT:Hid (∀i,i<t.length->((t.take (i+1)).map C.args).map exactR=((t.take i).map C.args).map exactR++[exactR (t.getD i C.zero).args]):=fun i hi=>by rw[take_mapC hi,List.map_append];rfl
 have HE:Hid (((t.take t.length).map C.args).map exactR=(t.map C.args).map exactR):=by unfold Hid;rw[List.take_length]
 have HP:Hid (∀v w1,Calls Tryz.prog 83 #[.int .u64 v] w1 fun e w'=>e=.returned (.agg #[.int .i64 1,.int .u64 18446744073709551615,.int .u64 v])∧Below w1.heap.size w1 w'):=l3point_any;have H0:((t.take 0).map C.args).map exactR=[]:=rfl;generalize(t.map C.args).map exactR=RES at*;obtain⟨T,hT⟩:∃T:Nat->List Ru,∀i,((t.take i).map C.args).map exactR=T i:=⟨_,fun _=>rfl⟩;have HT':Hid (∀i,i<t.length->T (i+1)=T i++[exactR (t.getD i C.zero).args]):=fun i hi=>by rw[<-hT,<-hT];exact HT.out i hi
 have HE':Hid (T t.length=RES):=by unfold Hid;rw[<-hT];exact HE.out
 rw[hT]at H0;clear hT HT HE hs hc;obtain⟨A,hA⟩:∃A:Nat->La,∀i,(t.getD i C.zero).args=A i:=⟨_,fun _=>rfl⟩;have HC':Hid (∀wr,Below w.heap.size w wr->∀i,i<t.length->∃b o b' o' cap',a=some ⟨b,o,none⟩∧wr.cell? ⟨b,o+i*3+2,none⟩=some (.slice (some ⟨b',o',none⟩) 6 cap')∧∀q,q<6->wr.cell? ⟨b',o'+q,none⟩=some (.int .u64 ((A i).getD q 0))):=fun wr hb i hi=>by rw[<-hA];exact HC.out wr hb i hi
 have HNn':Hid (∀i q,i<t.length->0<=(A i).getD q 0):=fun i q hi=>by rw[<-hA];exact HNn.out i q hi
 have HT2:Hid (∀i,i<t.length->T (i+1)=T i++[exactR (A i)]):=fun i hi=>by rw[<-hA];exact HT'.out i hi
 clear hA HC HNn HT';generalize t.length=n at*;have b0:Below w.heap.size w (w.alloc (.cells #[.int .i64 ex,.int .i64 sp,.int .i64 f] 25)):=(Below.refl _ _).alloc (Nat.le_refl _) _;go_enter Tryz.func44,Tryz.ntmps44;go_wp2_with fail;generalize w.alloc (.cells #[.int .i64 ex,.int .i64 sp,.int .i64 f] 25)=W0 at*;go_loopw [5,6](fun s' i wr=>∃(k:Nat)(s:Value)(os:List (Ru×Value)),s=s'∧k<=n∧i=.int .i64 k∧OwnM w.heap.size wr w.heap.size s os∧Hid (os.map Prod.fst=T k)∧os.length=k∧Below w.heap.size w wr)(fun _ i _=>n-(intOf i).toNat)
 case atStart=>exact⟨0,_,[],rfl,by omega,rfl,OwnM.nil _ _,H0.symm,rfl,b0⟩
 case round=>
  clear b0 H0;obtain⟨k,s,os,hss,hk,rfl,O,HM,hol,B⟩:=hrel;subst hss;rename World=>W1
  by_cases hkn:k<n
  ·have hkn':(k:Int)<(n:Int):=by omega
   have HS:=HT2.out k hkn;have HS':Hid _:=HS;have HNk:=HNn'.out k;have HNk':Hid (∀q,0<=(A k).getD q 0):=fun q=>HNk q hkn
   clear HS HNk;have U0:=BR.new 94 3 W1 116;have hB:=B.size;go_wp2_with fail;generalize hWU:W1.alloc (.cells #[.slice none 0 0] 116)=WU at*;clear hWU;have HCk:Hid (∀wr,Below W1.heap.size W1 wr->∃b o b' o' cap',a=some ⟨b,o,none⟩∧wr.cell? ⟨b,o+k*3+2,none⟩=some (.slice (some ⟨b',o',none⟩) 6 cap')∧∀q,q<6->wr.cell? ⟨b',o'+q,none⟩=some (.int .u64 ((A k).getD q 0))):=fun wr hb=>HC'.out wr (B.trans (hb.mono hB)) k hkn
   clear HC' HT2 HNn' HE';generalize A k=ar at*;go_loopw [8](fun i wr=>∃(q:Nat)(v:Value),q<=6∧i=.int .i64 q∧BR 94 3 W1 wr v q (kcs ((exactR ar).take q)))(fun i _=>6-(intOf i).toNat)
   case atStart=>exact⟨0,_,by omega,rfl,U0⟩
   case round=>
    clear U0;obtain⟨q,v,hq,rfl,hT⟩:=hrel;rename World=>W2
    by_cases hq6:q<6
    ·have hq6':(q:Int)<6:=by omega
     obtain⟨av,cv,rfl⟩:=own_form hT.own;obtain⟨b,o,b',o',cap',rfl,c2,cq⟩:=HCk.out W2 hT.b;have cv2:=cq q hq6;have hy:=HNk'.out q;have HK:Hid (kcs ((exactR ar).take (q+1))=kcs ((exactR ar).take q)++[.int .i64 1,.int .u64 18446744073709551615,.int .u64 (ar.getD q 0)]):=by
      show _=_;rw[exactR_take ar hq6,kcs_snoc];simp only[pointK];rw[Int.toNat_of_nonneg hy];rfl
     have hbm:q+1<=maxLen:=by unfold maxLen;omega
     have hbd:(q+1)*24<=140737488355328:=by omega
     have hvl:W1.heap.size<W2.heap.size:=cell_ltM hT.c;generalize ar.getD q 0=y at*;have hc1:=hT.c;have hc2:W2.drew.cell? ⟨W1.heap.size,0,none⟩=some (.slice av q cv):=hc1;have c2':W2.drew.cell? ⟨b,o+k*3+2,none⟩=some (.slice (some ⟨b',o',none⟩) 6 cap'):=c2;have cv3:W2.drew.cell? ⟨b',o'+q,none⟩=some (.int .u64 y):=cv2;have hTd:=hT.keep (Below.refl _ _).drew;clear HCk HNk' cq;go_wp2_with fail;go_region_law(first
      |(go_simp;go_at_call 83;refine(HP.out _ _).mono ?_;rintro _ w5⟨rfl,hb5⟩;have hT5:=hTd.keep hb5;have hc5:=hT5.c;have hc6:=(hT5.keep ((Below.refl _ _).alloc (Nat.le_refl _) (.cells #[.int .i64 1,.int .u64 18446744073709551615,.int .u64 y] 94))).c;have hv5:=cell_ltM hc5;have hbs:W1.heap.size+1<=(w5.alloc (.cells #[.int .i64 1,.int .u64 18446744073709551615,.int .u64 y] 94)).heap.size:=(by simp only at hv5;simp;omega);go_simp)
      |(refine step_append_lies _ (by rfl) _ _ _ (by rfl) (W1.heap.size+1) 94 i0 _ 3 24 Tryz.underlying114 hi hz0 hz1 hz2 rfl (by omega) (.slice av q cv) q (kcs ((exactR ar).take q)) (by rfl) (hT5.own.alloc _) ⟨w5.heap.size,0,none⟩ 1 1 [.int .i64 1,.int .u64 18446744073709551615,.int .u64 y] (by rfl) (by rfl) (World.news_of_block (t:=94) (fr:=(0,0)) (heap_alloc_new w5 _)) (by simp[Value.oneCell']) (by omega) hbm hbd hbs _ rfl ?_;intro gg cap2 w6 hown1 hgrow hat hlt2;obtain⟨x1,x2,x3⟩:=(hT5.keep ((Below.refl _ _).alloc (Nat.le_refl _) _)).next hown1 hgrow))
     all_goals
      rw[<-HK.out]at x3;have HX3:Hid _:=x3;clear x1 x2 x3 hown1 hgrow hat hlt2 hT5 hc5 hc6 hTd HK;go_wp2;go_roundw
      case rel=>exact⟨q+1,_,by omega,by go_num,HX3.out⟩
      case measure=>simp[intOf];omega
    have hq':q=6:=by omega
    subst hq';obtain⟨g,cg,rfl⟩:=own_pos hT.own (by omega);have hge:=hT.own.lt g rfl;have hc1:=hT.c;have hL:LAt 3 PK W2 g 0 (exactR ar):=own_lat (by have h:=hT.own;rw[List.take_of_length_le (by rw[exactR_len];omega)]at h;exact h) (exactR_len ar);have O2:=O.below hT.b;have B2:=B.trans (hT.b.mono hB);have hgood:goodN w.heap.size W2 s (exactR ar,.slice (some ⟨g,0,none⟩) 6 cg):=⟨g,0,cg,rfl,exactR_len ar,fun e=>by have:=(O.row.lt g e).2;omega,hge.2,hL,by omega⟩;have hbm:os.length+1<=maxLen:=by unfold maxLen;omega
    have hbd:(os.length+1)*24<=140737488355328:=by omega
    have hbs:w.heap.size<=(W2.alloc (.cells #[.slice (some ⟨g,0,none⟩) 6 cg] 116)).heap.size:=by have:=B2.size;simp;omega
    clear HCk HNk' HP hT hL O;go_wp2_with(at_builtin;refine wpList_append_lies _ rfl (.tmp 45) (.tmp 47) 73 rfl w.heap.size 116 i1 _ 1 24 Tryz.underlying73 hi1 hy0 hy1 hy2 rfl (by decide) s os.length (os.map Prod.snd) rfl (O2.row.alloc _) ⟨W2.heap.size,0,none⟩ 1 1 [.slice (some ⟨g,0,none⟩) 6 cg] rfl rfl (cell_one_new _ _ _) (by intro u hu;simp at hu;subst hu;rfl) (by omega) hbm hbd hbs _ rfl ?_);intro g9 cp9 w9 ow gr hat _;have O9:=O2.next hgood (by omega) ow gr (by simpa using hat);have B9:Below w.heap.size w w9:=(B2.alloc B2.size _).grown gr hbs (fun t ht=>(O2.row.lt t ht).1);have HM9:Hid ((os++[(exactR ar,Value.slice (some ⟨g,0,none⟩) 6 cg)]).map Prod.fst=T (k+1)):=by
     show _=_;rw[HS'.out,List.map_append,HM.out];rfl
    clear ow gr hat O2 hgood B2 hc1 HM HS';go_wp2;go_roundw
    case rel=>exact⟨k+1,_,_,rfl,by omega,by go_num,O9,HM9,by simp;omega,B9⟩
    case measure=>simp[intOf];omega
  have hk':k=n:=by omega
  subst hk';rw[HE'.out]at HM;have HP9:Hid (RulP RES w (.returned s) W1):=⟨s,os,rfl,O,HM.out,B⟩;clear HC' HT2 HNn' HE' O HM HP;go_wp2;go_ret;exact HP9.out
end Go.Proofs.YtddemlfepjkgoaaGreat
namespace Go.Proofs.YtddemlfepjkgoaaGreat
def AtI(t:List La)(sp:Int)(q:Nat)(x:Int):Prop:=
 (x= -1∧∀i,q<=i->i<6->¬MaySplit t sp i)∨∃j:Nat,x=j∧q<=j∧j<6∧MaySplit t sp j∧∀i,q<=i->i<j->¬MaySplit t sp i
theorem AtI.start(t:List La)(sp:Int):AtI t sp 6 (-1):=.inl ⟨rfl,fun i h1 h2=>by omega⟩
theorem AtI.yes{t:List La}{sp x:Int}{q:Nat}(hq:q<6)(h:MaySplit t sp q):AtI t sp q q:=.inr ⟨q,rfl,Nat.le_refl _,hq,h,fun i h1 h2=>by omega⟩
theorem AtI.no{t:List La}{sp x:Int}{q:Nat}(h:AtI t sp (q+1) x)(hn:¬MaySplit t sp q):AtI t sp q x:=by
 have key:∀i,q<=i->i=q∨q+1<=i:=fun i hi=>by omega
 rcases h with⟨h1,h2⟩|⟨j,h1,h2,h3,h4,h5⟩
 ·refine .inl ⟨h1,fun i g1 g2=> ?_⟩;rcases key i g1 with rfl|g
  ·exact hn
  exact h2 i g g2
 refine .inr ⟨j,h1,by omega,h3,h4,fun i g1 g2=> ?_⟩;rcases key i g1 with rfl|g
 ·exact hn
 exact h5 i g g2
theorem AtI.range{t:List La}{sp x:Int}{q:Nat}(h:AtI t sp q x): -1<=x∧x<6:=by
 rcases h with⟨h1,h2⟩|⟨j,h1,h2,h3,h4,h5⟩<;>omega
theorem maySplit_iff{t:List La}{sp:Int}{j:Nat}{d:List Int}(h:Diff t j d):MaySplit t sp j↔2<=d.length∧(d.length:Int)<=sp:=
 ⟨fun⟨e,h1,h2,h3⟩=>by rw[h.uniq h1];exact⟨h2,h3⟩,fun⟨h2,h3⟩=>⟨d,h,h2,h3⟩⟩
def partL(t:List La)(x v:Int):List La:=if x<0 then t else withV t x.toNat v
theorem pick_part(t:List La)(q:Nat)(x v:Int):pickL t q x v=(partL t x v).map fun a=>a.getD q 0:=by
 unfold partL;split
 ·rename_i h;exact pickL_all t q h
 rename_i h;obtain⟨k,rfl⟩:∃k:Nat,x=k:=⟨x.toNat,by omega⟩;rw[Int.toNat_natCast];exact pickL_with t q k v
theorem natV_col{t:List La}(h:∀a∈t,okLa a)(q:Nat):(colN t q).map (fun n:Nat=>(n:Int))=t.map fun a=>a.getD q 0:=by
 unfold colN;rw[List.map_map];refine List.map_congr_left fun a ha=> ?_
 have:=((h a ha).lt q).2;simp only[Function.comp];omega
theorem part_ok{t:List La}(h:∀a∈t,okLa a)(x v:Int):∀a∈partL t x v,okLa a:=by
 intro a ha;unfold partL at ha;split at ha
 ·exact h a ha
 exact h a (List.mem_filter.1 ha).1
def ruleX(t:List La)(f x v:Int):Ru:=(List.range 6).map fun q:Nat=>if(q:Int)=x then pointK v.toNat else coverK (colN (partL t x v) q) f
theorem ruleX_len(t:List La)(f x v:Int):(ruleX t f x v).length=6:=by simp[ruleX]
theorem ruleX_take(t:List La)(f x v:Int){k:Nat}(h:k<6):(ruleX t f x v).take (k+1)=(ruleX t f x v).take k++[if(k:Int)=x then pointK v.toNat else coverK (colN (partL t x v) k) f]:=by
 rw[List.take_add_one,List.getElem?_eq_getElem (by rw[ruleX_len];exact h)];simp[ruleX]
theorem diff_mem{t:List La}{j:Nat}{d:List Int}(h:Diff t j d){v:Int}(hv:v∈d):∃a∈t,a.getD j 0=v:=by
 have:=(h.2 v).1 hv;simpa using this
theorem ruleX_is{t:List La}(ht:∀a∈t,okLa a){f x v:Int}(hf:0<=f∧f<=2)(hx:x<0∨∃j:Nat,x=j∧j<6∧∃a∈t,a.getD j 0=v):ruleX t f x v=coverR (partL t x v) f:=by
 unfold ruleX coverR;refine List.map_congr_left fun q hq=> ?_
 split
 ·rename_i e;rcases hx with hx|⟨j,rfl,hj,a,ha,hav⟩
  ·omega
  have:q=j:=by omega
  subst this;have hp:partL t (q:Int) v=withV t q v:=by unfold partL;rw[if_neg (by omega),Int.toNat_natCast]
  rw[hp];have hv0:=((ht a ha).lt q);rw[hav]at hv0;have hlt:v.toNat<18446744073709551616:=by
   have:=((ht a ha).lt q).1;unfold argN at this;rw[hav]at this;exact this
  have hm:a∈withV t q v:=List.mem_filter.2 ⟨ha,by simpa using hav⟩;refine(cover_const (v:=v.toNat) hlt (by rw[colN_len];exact List.length_pos_of_mem hm) (fun i hi=> ?_) hf).symm;rw[colN_len]at hi;rw[colN_get q hi];have hm2:(withV t q v).getD i []∈withV t q v:=by
   rw[List.getD_eq_getElem?_getD,List.getElem?_eq_getElem hi];exact List.getElem_mem hi
  have:=(List.mem_filter.1 hm2).2;unfold argN;have e2:((withV t q v).getD i []).getD q 0=v:=by simpa using this
  rw[e2]
 rfl
theorem rules_one{t:List La}(ht:∀a∈t,okLa a){ex sp f:Int}(hf:0<=f∧f<=2)(hex:¬(t.length:Int)<=ex)(h:AtI t sp 0 (-1)):IsRules t ex sp f [ruleX t f (-1) 0]:=by
 unfold IsRules;rw[if_neg hex];rcases h with⟨_,h2⟩|⟨j,h1,_⟩
 ·refine .inr ⟨fun i hi=>h2 i (Nat.zero_le _) hi,?_⟩;rw[ruleX_is ht hf (.inl (by omega))];unfold partL;rw[if_pos (by omega)]
 omega
theorem rules_split{t:List La}(ht:∀a∈t,okLa a){ex sp f:Int}(hf:0<=f∧f<=2)(hex:¬(t.length:Int)<=ex){j:Nat}(h:AtI t sp 0 (j:Int)){d:List Int}(hd:Diff t j d):IsRules t ex sp f (d.map fun v=>ruleX t f (j:Int) v):=by
 unfold IsRules;rw[if_neg hex];rcases h with⟨h1,_⟩|⟨j',h1,h2,h3,h4,h5⟩
 ·omega
 have:j=j':=by omega
 subst this;refine .inl ⟨j,d,h3,h4,fun i hi=>h5 i (Nat.zero_le _) hi,hd,?_⟩;refine List.map_congr_left fun v hv=> ?_
 obtain⟨a,ha,hav⟩:=diff_mem hd hv;rw[ruleX_is ht hf (.inr ⟨j,rfl,h3,a,ha,hav⟩)];unfold partL;rw[if_neg (by omega),Int.toNat_natCast]
end Go.Proofs.YtddemlfepjkgoaaGreat
namespace Go.Proofs.YtddemlfepjkgoaaGreat
open Go.RowKit
abbrev natV(vs:List Nat):List Int:=vs.map fun n:Nat=>(n:Int)
theorem natV_get(vs:List Nat)(i:Nat):(natV vs).getD i 0=((vs.getD i 0:Nat):Int):=by
 rw[List.getD_eq_getElem?_getD,List.getElem?_map,List.getD_eq_getElem?_getD]
 cases vs[i]? <;>simp
theorem USrc.natAt{w:World}{a:Option Addr}{vs:List Nat}(h:USrc w a (natV vs))(h0:0<vs.length):∃b o,a=some ⟨b,o,none⟩∧b<w.heap.size∧∀j,j<vs.length->w.cell? ⟨b,o+j,none⟩=some (.int .u64 ((vs.getD j 0:Nat):Int)):=by
 rcases h with h|⟨b,o,h1,h2,h3⟩
 ·have:vs=[]:=by simpa using h
  subst this;simp at h0
 refine⟨b,o,h1,h2,fun j hj=> ?_⟩;rw[h3 j (by simpa using hj),natV_get]
theorem i64_and(a b:Nat)(ha:a<9223372036854775808)(hb:b<9223372036854775808):bits .and .i64 (a:Int) (b:Int)=((a&&&b:Nat):Int):=by
 have hx:a&&&b<2^63:=Nat.and_lt_two_pow _ (by omega);have h1:(BitVec.ofInt 64 (a:Int)).toNat=a:=by
  rw[BitVec.ofInt_natCast,BitVec.toNat_ofNat];exact Nat.mod_eq_of_lt (by omega)
 have h2:(BitVec.ofInt 64 (b:Int)).toNat=b:=by
  rw[BitVec.ofInt_natCast,BitVec.toNat_ofNat];exact Nat.mod_eq_of_lt (by omega)
 show IntKind.i64.wrap ((BitVec.ofInt 64 (a:Int)&&&BitVec.ofInt 64 (b:Int)).toNat:Int)=_;rw[BitVec.toNat_and,h1,h2,IntKind.wrap_i64];omega
theorem onesCount_any(x:Nat)(w:World)(hx:x<18446744073709551616):
 Calls Tryz.prog 87 #[.int .u64 (x:Int)] w fun e w'=>e=.returned (.int .i64 ((popN x 64:Nat):Int))∧w'=w:=by
 obtain⟨p1,hp1⟩:∃p1:Nat,p1=x/2&&&6148914691236517205:=⟨_,rfl⟩;obtain⟨p2,hp2⟩:∃p2:Nat,p2=x&&&6148914691236517205:=⟨_,rfl⟩;have l1:p1<=6148914691236517205:=hp1▸Nat.and_le_right;have l2:p2<=6148914691236517205:=hp2▸Nat.and_le_right;have a1:bits .and .u64 ((x:Int)/2) 6148914691236517205=(p1:Int):=by
  rw[hp1,show(x:Int)/2=((x/2:Nat):Int)by omega];exact u64_and _ 6148914691236517205 (by omega) (by decide)
 have a2:bits .and .u64 (x:Int) 6148914691236517205=(p2:Int):=by
  rw[hp2];exact u64_and _ 6148914691236517205 (by omega) (by decide)
 obtain⟨q1,hq1⟩:∃q1:Nat,q1=(p1+p2)/4&&&3689348814741910323:=⟨_,rfl⟩;obtain⟨q2,hq2⟩:∃q2:Nat,q2=(p1+p2)&&&3689348814741910323:=⟨_,rfl⟩;have l3:q1<=3689348814741910323:=hq1▸Nat.and_le_right;have l4:q2<=3689348814741910323:=hq2▸Nat.and_le_right;have a3:bits .and .u64 (((p1:Int)+p2)/4) 3689348814741910323=(q1:Int):=by
  rw[hq1,show((p1:Int)+p2)/4=(((p1+p2)/4:Nat):Int)by omega];exact u64_and _ 3689348814741910323 (by omega) (by decide)
 have a4:bits .and .u64 ((p1:Int)+p2) 3689348814741910323=(q2:Int):=by
  rw[hq2,show((p1:Int)+p2)=((p1+p2:Nat):Int)by omega];exact u64_and _ 3689348814741910323 (by omega) (by decide)
 obtain⟨y,hy⟩:∃y:Nat,y=((q1+q2)/16+(q1+q2))&&&1085102592571150095:=⟨_,rfl⟩;have a5:bits .and .u64 (((q1:Int)+q2)/16+((q1:Int)+q2)) 1085102592571150095=(y:Int):=by
  rw[hy,show((q1:Int)+q2)/16+((q1:Int)+q2)=(((q1+q2)/16+(q1+q2):Nat):Int)by omega];exact u64_and _ 1085102592571150095 (by omega) (by decide)
 have HD:y=dig 8 x:=by
  have:=(swar 8 x (by simpa using hx)).1;rw[<-this,hy,hq1,hq2,hp1,hp2];rfl
 obtain⟨z1,z2,z3,z4⟩:=swar_sum hx HD;have HZ:Hid ((((y+y/256)+(y+y/256)/65536)+((y+y/256)+(y+y/256)/65536)/4294967296)%128=popN x 64):=z4;clear hp1 hp2 hq1 hq2 hy HD z4;have a6:bits .and .i64 ((y:Int)+(y:Int)/256+((y:Int)+(y:Int)/256)/65536+((y:Int)+(y:Int)/256+((y:Int)+(y:Int)/256)/65536)/4294967296) 127=((popN x 64:Nat):Int):=by
  rw[<-HZ.out,show((y:Int)+(y:Int)/256+((y:Int)+(y:Int)/256)/65536+((y:Int)+(y:Int)/256+((y:Int)+(y:Int)/256)/65536)/4294967296)=(((((y+y/256)+(y+y/256)/65536)+((y+y/256)+(y+y/256)/65536)/4294967296):Nat):Int)by omega];rw[show(127:Int)=((127:Nat):Int)from rfl,i64_and _ 127 z3 (by decide),nat_mask7]
 generalize popN x 64=R at*;clear HZ;go_enter Tryz.func87,Tryz.ntmps87;go_wp2;go_ret;exact⟨rfl,rfl⟩
end Go.Proofs.YtddemlfepjkgoaaGreat
