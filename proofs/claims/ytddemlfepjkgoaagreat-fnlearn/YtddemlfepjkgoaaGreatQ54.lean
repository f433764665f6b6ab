import Derived.Test.YtddemlfepjkgoaaGreatQ53
set_option linter.all false
set_option maxRecDepth 200000
set_option maxHeartbeats 16000000
namespace Go.Proofs.YtddemlfepjkgoaaGreat
open Go.RowKit Go.Deep
set_option linter.unusedSimpArgs false
theorem infoU6:(Tryz.prog.info? 69).map (fun i=>(i.zero,i.size,i.bytes))=some (some (.int .u64 0),1,8):=by kernel_rfl
theorem isU64_wrap(x:Int):isU64 (IntKind.u64.wrap x):=by unfold isU64;rw[IntKind.wrap_u64];omega
theorem isU64_bits(o:BinOp)(x y:Int):isU64 (bits o .u64 x y):=by unfold bits;split<;>exact isU64_wrap _
theorem isU32_bits(o:BinOp)(x y:Int):isU32 (bits o .u32 x y):=by unfold bits isU32;split<;>(rw[IntKind.wrap_u32];omega)
theorem mod_six{x:Int}(h0:0<=x):∃q:Nat,q<6∧x%6=(q:Int):=⟨(x%6).toNat,by omega,by omega⟩
theorem mod_nat{x:Int}{n:Nat}(h0:0<=x)(hn:0<n):∃q:Nat,q<n∧x%(n:Int)=(q:Int):=by
 have h1:=Int.emod_nonneg x (show(n:Int)≠0 by omega);have h2:=Int.emod_lt_of_pos x (show(0:Int)<n by omega);exact⟨(x%(n:Int)).toNat,by omega,by omega⟩
theorem other_any(cs:List C)(a:Option Addr)(cap:Nat)(lm:List Int)(am:Option Addr)(cm:Nat)(w:World)(hs:CSrc w a cs)(hok:∀c∈cs,c.ok)(hcs:∀c∈cs,okLa c.args)(hn:cs.length<=1000)(hm:BSrc w am lm)(hl:isBytes lm)(hln:lm.length<=1048576):
 Calls Tryz.prog 10 #[.slice a cs.length cap,.slice am lm.length cm] w (OthP w):=by
 have HT0:Hid (∀wr,Below w.heap.size w wr->Calls Tryz.prog 37 #[.slice am lm.length cm,.int .i64 0] wr (TakP wr)):=fun wr hb=>takL_any lm am cm 0 wr (hm.below hb) hl hln (by omega)
 have HT1:Hid (∀wr,Below w.heap.size w wr->Calls Tryz.prog 37 #[.slice am lm.length cm,.int .i64 1] wr (TakP wr)):=fun wr hb=>takL_any lm am cm 1 wr (hm.below hb) hl hln (by omega)
 have HT2:Hid (∀wr,Below w.heap.size w wr->Calls Tryz.prog 37 #[.slice am lm.length cm,.int .i64 2] wr (TakP wr)):=fun wr hb=>takL_any lm am cm 2 wr (hm.below hb) hl hln (by omega)
 have HT3:Hid (∀wr,Below w.heap.size w wr->Calls Tryz.prog 37 #[.slice am lm.length cm,.int .i64 3] wr (TakP wr)):=fun wr hb=>takL_any lm am cm 3 wr (hm.below hb) hl hln (by omega)
 have HT4:Hid (∀wr,Below w.heap.size w wr->Calls Tryz.prog 37 #[.slice am lm.length cm,.int .i64 4] wr (TakP wr)):=fun wr hb=>takL_any lm am cm 4 wr (hm.below hb) hl hln (by omega)
 have HT5:Hid (∀wr,Below w.heap.size w wr->Calls Tryz.prog 37 #[.slice am lm.length cm,.int .i64 5] wr (TakP wr)):=fun wr hb=>takL_any lm am cm 5 wr (hm.below hb) hl hln (by omega)
 have HN6:Hid (∀wr,Below w.heap.size w wr->Calls Tryz.prog 38 #[.slice am lm.length cm,.int .i64 6] wr (NumP wr)):=fun wr hb=>numL_any lm am cm 6 wr (hm.below hb) hl hln (by omega)
 have HC:Hid (∀wr,Below w.heap.size w wr->∀j,j<cs.length->∃b o b' o' c',a=some ⟨b,o,none⟩∧wr.cell? ⟨b,o+j*3,none⟩=some (.int .u32 (cs.getD j C.zero).arch)∧wr.cell? ⟨b,o+j*3+1,none⟩=some (.int .u32 (cs.getD j C.zero).nr)∧wr.cell? ⟨b,o+j*3+2,none⟩=some (.slice (some ⟨b',o',none⟩) 6 c')∧∀wq,Below w.heap.size w wq->∀q,q<6->∃x,wq.cell? ⟨b',o'+q,none⟩=some (.int .u64 x)∧isU64 x):=fun wr hb j hj=>by
  obtain⟨b,o,b',o',c',h1,_,h2,h3,h4,h5,_⟩:=csrc_six (hs.below hb) hcs hj
  refine⟨b,o,b',o',c',h1,h2,h3,h4,fun wq hq q hq6=> ?_⟩
  have hk:=hcs _ (callL_mem hj)
  obtain⟨b2,o2,b2',o2',c2',g1,_,g2,g3,g4,_,g6⟩:=csrc_six (hs.below hq) hcs hj
  rw[h1]at g1;cases g1
  obtain⟨b3,o3,b3',o3',c3',k1,klt,_,_,k4,_,_⟩:=csrc_six hs hcs hj
  rw[h1]at k1;cases k1
  have e1:=(hb.cell (p:=⟨b,o+j*3+2,none⟩) klt).trans k4
  have e2:=(hq.cell (p:=⟨b,o+j*3+2,none⟩) klt).trans k4
  rw[h4]at e1;cases e1
  rw[g4]at e2;cases e2
  have hm':∀A:List Int,q<A.length->A.getD q 0∈A:=fun A h=>by rw[List.getD_eq_getElem?_getD,List.getElem?_eq_getElem h];exact List.getElem_mem h
  exact⟨_,g6 q hq6,hk.2 _ (hm' _ (by rw[hk.1];exact hq6))⟩
 have HU:Hid (∀j,j<cs.length->isU32 (cs.getD j C.zero).arch∧isU32 (cs.getD j C.zero).nr):=fun j hj=>by
  have:=hok _ (callL_mem hj)
  exact⟨⟨this.1,this.2.1⟩,this.2.2.1,this.2.2.2.1⟩
 obtain⟨fa,hfa⟩:∃fa:Nat->Int,∀j,(cs.getD j C.zero).arch=fa j:=⟨_,fun _=>rfl⟩
 obtain⟨fn,hfn⟩:∃fn:Nat->Int,∀j,(cs.getD j C.zero).nr=fn j:=⟨_,fun _=>rfl⟩
 simp only[hfa,hfn]at HC HU
 clear hfa hfn hs hok hcs hm hl
 obtain⟨i0,hi,hz0,hz1,hz2⟩:=info_parts infoU6
 have hmk:∀u:World,(Instr.makeSlice 37 (.int .i64 6) (.int .i64 6)).run Tryz.prog u=.ok (.slice (some ⟨u.heap.size,0,none⟩) 6 6) (u.alloc (.cells (madeCells #[.int .u64 0] 6) 69)):=fun u=>by
  have h:=run_make (P:=Tryz.prog) u 37 69 i0 _ Tryz.underlying37 hi hz0 .i64 .i64 6 6 (by omega) (by omega) (by rw[hz2];omega) (by omega)
  simpa[hz1,Value.cells]using h
 have S0:=OtS.new w 39
 have hmk2:=hmk ((w.alloc (.cells #[.int .u32 0,.int .u32 0,.slice none 0 0] 39)).alloc (.cells #[.int .u32 0,.int .u32 0,.slice none 0 0] 39))
 clear hi hz0 hz1 hz2 hmk
 generalize cs.length=n at*
 generalize lm.length=nm at*
 go_enter Tryz.func10,Tryz.ntmps10
 go_upto_region 3 with fail
 clear hmk2
 generalize((w.alloc (.cells #[.int .u32 0,.int .u32 0,.slice none 0 0] 39)).alloc (.cells #[.int .u32 0,.int .u32 0,.slice (some ⟨w.heap.size+1+1,0,none⟩) 6 6] 39)).alloc (.cells (madeCells #[.int .u64 0] 6) 69)=W0 at*
 generalize w.heap.size+1+1=g at*
 generalize hG:w.heap.size+1=G at*
 rename_i K1 hK1 K2 hK2
 have TAIL:Hid (∀(t6 t7 t8 t9 t10 t11 t12 t13 t14 t15 t16 t17 t18 t19 t20 t21 t22 t23 t24 t25 t26 t27 t28 t29 t30 t31 t32 t33 t34 t35 t36 t37 t38 t39 t40 t41 t42 t43 t44 t45 t46 t47 t48 t49 t50 t51 t52 t53 t54 t55 t56 t57 t58 t59 t60 t61 t62 t63 t64 t65 t66 t67 t68 t69 t70 t71 t72 t73 t74 t75 t76 t77 t78 t79 t80 t81 t82 t83 t84 t85 t86 t87 t88 t89 t90 t91 t92 t93 t94 t95 t96 t97 t98 t99 t100 t101 t102 t103 t104 t105 t106 t107 t108 t109 t110 t111 t112 t113 t114 t115 t116 t117 t118 t119 t120 t121 t122 t123 t124 t125 t126 t127 t128 t129 t130 t131 t132 t133 t134 t135 t136 t137 t138 t139 t140 t141 t142 t143 t144 t145 t146 t147 t148 t149 t150 t151 t152 t153 t154 t155 t156:Value)(WX:World)(aX nX:Int)(ys:List Int),OtS w WX G g aX nX ys->K1 {tmps:= #[.slice a n cap,.slice am nm cm,undef,undef,.pointer (some ⟨w.heap.size,0,none⟩),.pointer (some ⟨G,0,none⟩),t6,t7,t8,t9,t10,t11,t12,t13,t14,t15,t16,t17,t18,t19,t20,t21,t22,t23,t24,t25,t26,t27,t28,t29,t30,t31,t32,t33,t34,t35,t36,t37,t38,t39,t40,t41,t42,t43,t44,t45,t46,t47,t48,t49,t50,t51,t52,t53,t54,t55,t56,t57,t58,t59,t60,t61,t62,t63,t64,t65,t66,t67,t68,t69,t70,t71,t72,t73,t74,t75,t76,t77,t78,t79,t80,t81,t82,t83,t84,t85,t86,t87,t88,t89,t90,t91,t92,t93,t94,t95,t96,t97,t98,t99,t100,t101,t102,t103,t104,t105,t106,t107,t108,t109,t110,t111,t112,t113,t114,t115,t116,t117,t118,t119,t120,t121,t122,t123,t124,t125,t126,t127,t128,t129,t130,t131,t132,t133,t134,t135,t136,t137,t138,t139,t140,t141,t142,t143,t144,t145,t146,t147,t148,t149,t150,t151,t152,t153,t154,t155,t156],defers:=[]} WX):=by
  intro t6 t7 t8 t9 t10 t11 t12 t13 t14 t15 t16 t17 t18 t19 t20 t21 t22 t23 t24 t25 t26 t27 t28 t29 t30 t31 t32 t33 t34 t35 t36 t37 t38 t39 t40 t41 t42 t43 t44 t45 t46 t47 t48 t49 t50 t51 t52 t53 t54 t55 t56 t57 t58 t59 t60 t61 t62 t63 t64 t65 t66 t67 t68 t69 t70 t71 t72 t73 t74 t75 t76 t77 t78 t79 t80 t81 t82 t83 t84 t85 t86 t87 t88 t89 t90 t91 t92 t93 t94 t95 t96 t97 t98 t99 t100 t101 t102 t103 t104 t105 t106 t107 t108 t109 t110 t111 t112 t113 t114 t115 t116 t117 t118 t119 t120 t121 t122 t123 t124 t125 t126 t127 t128 t129 t130 t131 t132 t133 t134 t135 t136 t137 t138 t139 t140 t141 t142 t143 t144 t145 t146 t147 t148 t149 t150 t151 t152 t153 t154 t155 t156 WX aX nX ys T
  apply hK1
  clear hK1 hK2 S0 HC HU HT0 HT1 HT2
  go_wp2_with fail
  refine(HT3.out _ T.b).mono ?_
  rintro _ v1⟨k,rfl,k0,k1,hb1⟩
  have T1:=T.keep hb1
  clear T hb1 HT3
  go_wp2_with fail
  refine(HT4.out _ T1.b).mono ?_
  rintro _ v2⟨i,rfl,i0',i1',hb2⟩
  have T2:=T1.keep hb2
  clear T1 hb2 HT4
  go_wp2_with fail
  refine(HT5.out _ T2.b).mono ?_
  rintro _ v3⟨x,rfl,x0',x1',hb3⟩
  have T3:=T2.keep hb3
  clear T2 hb3 HT5
  obtain⟨iq,hiq,eiq⟩:=mod_six i0'
  have hiq':(iq:Int)<6:=by omega
  have tiq:i.tmod 6=(iq:Int):=(Int.tmod_eq_emod_of_nonneg i0').trans eiq
  obtain⟨z0,z1,z2⟩:=T3.cell hiq
  obtain⟨_,p0,p1,p2,r0,r1,r2⟩:=id T3.box
  obtain⟨_,a0,a1,a2,e0,e1,e2⟩:=id T3.res
  have ha:=T3.oa
  have hn':=T3.on
  unfold isU32 at ha hn'
  generalize ys.getD iq 0=y at*
  rcases(show k%8=0∨k%8=1∨k%8=2∨k%8=3∨k%8=4∨k%8=5∨k%8=6∨k%8=7 by omega)with hk|hk|hk|hk|hk|hk|hk|hk
  ·go_upto_region 30 with fail
   have Tz:=T3
   clear T3 z0 z1 z2 p0 p1 p2 r0 r1 r2 a0 a1 a2 e0 e1 e2
   obtain⟨_,p0,p1,p2,_,_,_⟩:=id Tz.box
   obtain⟨_,a0,a1,a2,e0,e1,e2⟩:=id Tz.res
   have HO:Hid _:=Tz.out
   clear Tz
   go_wp2
   exact bodyPost_ret (v:=.agg #[.int .u32 aX,.int .u32 nX,.slice (some ⟨g,0,none⟩) 6 6]) (by simp[results,Tryz.results10,go_sem,a0,a1,a2]) rfl HO.out
  ·go_upto_region 17 with fail
   go_region_law(fail)
   all_goals
    have Tz:=(T3.put hiq (u:=IntKind.u64.wrap (y+1)) (isU64_wrap _)).keep ((Below.refl _ _).drew)
    clear T3 z0 z1 z2 p0 p1 p2 r0 r1 r2 a0 a1 a2 e0 e1 e2
    generalize(v3.setCell ⟨g,iq,none⟩ (.int .u64 (IntKind.u64.wrap (y+1)))).drew=WZ at*
    obtain⟨_,p0,p1,p2,_,_,_⟩:=id Tz.box
    obtain⟨_,a0,a1,a2,e0,e1,e2⟩:=id Tz.res
    have HO:Hid _:=Tz.out
    clear Tz
    go_wp2
    exact bodyPost_ret (v:=.agg #[.int .u32 aX,.int .u32 nX,.slice (some ⟨g,0,none⟩) 6 6]) (by simp[results,Tryz.results10,go_sem,a0,a1,a2]) rfl HO.out
  ·go_upto_region 19 with fail
   go_region_law(fail)
   all_goals
    have Tz:=(T3.put hiq (u:=IntKind.u64.wrap (y-1)) (isU64_wrap _)).keep ((Below.refl _ _).drew)
    clear T3 z0 z1 z2 p0 p1 p2 r0 r1 r2 a0 a1 a2 e0 e1 e2
    generalize(v3.setCell ⟨g,iq,none⟩ (.int .u64 (IntKind.u64.wrap (y-1)))).drew=WZ at*
    obtain⟨_,p0,p1,p2,_,_,_⟩:=id Tz.box
    obtain⟨_,a0,a1,a2,e0,e1,e2⟩:=id Tz.res
    have HO:Hid _:=Tz.out
    clear Tz
    go_wp2
    exact bodyPost_ret (v:=.agg #[.int .u32 aX,.int .u32 nX,.slice (some ⟨g,0,none⟩) 6 6]) (by simp[results,Tryz.results10,go_sem,a0,a1,a2]) rfl HO.out
  ·go_upto_region 21 with fail
   go_region_law(fail)
   all_goals
    have Tz:=(T3.put hiq (u:=bits .xor .u64 y (IntKind.u64.wrap (2^min (IntKind.u64.wrap (x.tmod 64)).toNat 64))) (isU64_bits _ _ _)).keep ((Below.refl _ _).drew)
    clear T3 z0 z1 z2 p0 p1 p2 r0 r1 r2 a0 a1 a2 e0 e1 e2
    generalize(v3.setCell ⟨g,iq,none⟩ (.int .u64 (bits .xor .u64 y (IntKind.u64.wrap (2^min (IntKind.u64.wrap (x.tmod 64)).toNat 64))))).drew=WZ at*
    obtain⟨_,p0,p1,p2,_,_,_⟩:=id Tz.box
    obtain⟨_,a0,a1,a2,e0,e1,e2⟩:=id Tz.res
    have HO:Hid _:=Tz.out
    clear Tz
    go_wp2
    exact bodyPost_ret (v:=.agg #[.int .u32 aX,.int .u32 nX,.slice (some ⟨g,0,none⟩) 6 6]) (by simp[results,Tryz.results10,go_sem,a0,a1,a2]) rfl HO.out
  ·go_upto_region 23 with fail
   have T3d:=T3.keep ((Below.refl _ v3).drew)
   go_region_law(go_simp;go_at_call 38;refine(HN6.out _ T3d.b).mono ?_;rintro _ v4⟨nv,rfl,nu,hb4⟩;have T4:=T3d.keep hb4;obtain⟨z0,z1,z2⟩:=T4.cell hiq;obtain⟨_,p0,p1,p2,r0,r1,r2⟩:=id T4.box;dsimp only)
   all_goals
    have Tz:=T4.put hiq nu
    clear T3 T3d T4 z0 z1 z2 p0 p1 p2 r0 r1 r2 a0 a1 a2 e0 e1 e2 hb4
    generalize v4.setCell ⟨g,iq,none⟩ (.int .u64 nv)=WZ at*
    obtain⟨_,p0,p1,p2,_,_,_⟩:=id Tz.box
    obtain⟨_,a0,a1,a2,e0,e1,e2⟩:=id Tz.res
    have HO:Hid _:=Tz.out
    clear Tz
    go_wp2
    exact bodyPost_ret (v:=.agg #[.int .u32 aX,.int .u32 nX,.slice (some ⟨g,0,none⟩) 6 6]) (by simp[results,Tryz.results10,go_sem,a0,a1,a2]) rfl HO.out
  ·go_upto_region 30 with fail
   have Tz:=T3.nrr (u:=(nX+x%3)%4294967296) (by unfold isU32;omega)
   clear T3 z0 z1 z2 p0 p1 p2 r0 r1 r2 a0 a1 a2 e0 e1 e2
   generalize(v3.setCell ⟨G,1,none⟩ (.int .u32 ((nX+x%3)%4294967296)))=WZ at*
   obtain⟨_,p0,p1,p2,_,_,_⟩:=id Tz.box
   obtain⟨_,a0,a1,a2,e0,e1,e2⟩:=id Tz.res
   have HO:Hid _:=Tz.out
   clear Tz
   go_wp2
   exact bodyPost_ret (v:=.agg #[.int .u32 aX,.int .u32 ((nX+x%3)%4294967296),.slice (some ⟨g,0,none⟩) 6 6]) (by simp[results,Tryz.results10,go_sem,a0,a1,a2]) rfl HO.out
  ·go_upto_region 30 with fail
   have Tz:=T3.arch (u:=bits .xor .u32 aX (2^(x%32).toNat%4294967296)) (isU32_bits _ _ _)
   clear T3 z0 z1 z2 p0 p1 p2 r0 r1 r2 a0 a1 a2 e0 e1 e2
   generalize(v3.setCell ⟨G,0,none⟩ (.int .u32 (bits .xor .u32 aX (2^(x%32).toNat%4294967296))))=WZ at*
   obtain⟨_,p0,p1,p2,_,_,_⟩:=id Tz.box
   obtain⟨_,a0,a1,a2,e0,e1,e2⟩:=id Tz.res
   have HO:Hid _:=Tz.out
   clear Tz
   go_wp2
   exact bodyPost_ret (v:=.agg #[.int .u32 (bits .xor .u32 aX (2^(x%32).toNat%4294967296)),.int .u32 nX,.slice (some ⟨g,0,none⟩) 6 6]) (by simp[results,Tryz.results10,go_sem,a0,a1,a2]) rfl HO.out
  ·go_upto_region 29 with fail
   go_region_law(fail)
   all_goals
    have Tz:=(T3.put hiq (u:=bits .xor .u64 y (IntKind.u64.wrap (2^min (IntKind.u64.wrap (x.tmod 4)).toNat 64))) (isU64_bits _ _ _)).keep ((Below.refl _ _).drew)
    clear T3 z0 z1 z2 p0 p1 p2 r0 r1 r2 a0 a1 a2 e0 e1 e2
    generalize(v3.setCell ⟨g,iq,none⟩ (.int .u64 (bits .xor .u64 y (IntKind.u64.wrap (2^min (IntKind.u64.wrap (x.tmod 4)).toNat 64))))).drew=WZ at*
    obtain⟨_,p0,p1,p2,_,_,_⟩:=id Tz.box
    obtain⟨_,a0,a1,a2,e0,e1,e2⟩:=id Tz.res
    have HO:Hid _:=Tz.out
    clear Tz
    go_wp2
    exact bodyPost_ret (v:=.agg #[.int .u32 aX,.int .u32 nX,.slice (some ⟨g,0,none⟩) 6 6]) (by simp[results,Tryz.results10,go_sem,a0,a1,a2]) rfl HO.out
 by_cases h0:n=0
 case pos=>
  subst h0
  clear HC HU HT0 HT1 HT2 HT3 HT4 HT5 HN6 hK1
  go_wp2_with fail
  exact TAIL.out _ _ _ _ _ _ _ _ _ _ _ _ _ _ _ _ _ _ _ _ _ _ _ _ _ _ _ _ _ _ _ _ _ _ _ _ _ _ _ _ _ _ _ _ _ _ _ _ _ _ _ _ _ _ _ _ _ _ _ _ _ _ _ _ _ _ _ _ _ _ _ _ _ _ _ _ _ _ _ _ _ _ _ _ _ _ _ _ _ _ _ _ _ _ _ _ _ _ _ _ _ _ _ _ _ _ _ _ _ _ _ _ _ _ _ _ _ _ _ _ _ _ _ _ _ _ _ _ _ _ _ _ _ _ _ _ _ _ _ _ _ _ _ _ _ _ _ _ _ _ _ _ _ _ _ S0
 case neg=>
  have hnp:(0:Int)<(n:Int):=by omega
  have hn0:¬(n:Int)=0:=by omega
  clear hK1
  have hdn:decide (0<n)=true:=decide_eq_true (by omega)
  go_upto_region 4 with fail
  try simp only[hdn]
  go_wp2_with fail
  refine(HT0.out _ S0.b).mono ?_
  rintro _ w1⟨x0,rfl,x00,x01,hb1⟩
  have S1:=S0.keep hb1
  obtain⟨q,hq,eq⟩:=mod_nat (n:=n) x00 (by omega)
  have hq':(q:Int)<(n:Int):=by omega
  obtain⟨b,o,b',o',c',rfl,d0,d1,d2,d3⟩:=HC.out w1 S1.b q hq
  obtain⟨u0,u1⟩:=HU.out q hq
  clear hb1 S0 HT0
  generalize fa q=fq at*
  generalize fn q=gq at*
  have F1:=Box3.new w1 39 (.int .u32 fq) (.int .u32 gq) (.slice (some ⟨b',o',none⟩) 6 c')
  have S2:=S1.keep ((Below.refl _ w1).alloc (Nat.le_refl _) (.cells #[.int .u32 fq,.int .u32 gq,.slice (some ⟨b',o',none⟩) 6 c'] 39))
  have hF:G<w1.heap.size:=S1.box.lt
  have hFg:g<w1.heap.size:=(S1.own.lt g rfl).2
  have hFw:w.heap.size<w1.heap.size:=S1.res.lt
  go_upto_region 5 with fail
  clear d0 d1 d2 S1
  generalize w1.alloc (.cells #[.int .u32 fq,.int .u32 gq,.slice (some ⟨b',o',none⟩) 6 c'] 39)=W2 at*
  generalize w1.heap.size=F at*
  obtain⟨_,f0,f1,f2,_,_,_⟩:=id F1
  obtain⟨_,p0,p1,p2,r0,r1,r2⟩:=id S2.box
  go_upto_region 6 with fail
  have S3:=S2.arch u0
  have F3:=F1.setO (D:=G) (i:=0) (u:=.int .u32 fq) (by omega)
  clear f0 f1 f2 p0 p1 p2 r0 r1 r2 S2 F1
  generalize W2.setCell ⟨G,0,none⟩ (.int .u32 fq)=W3 at*
  obtain⟨_,f0,f1,f2,_,_,_⟩:=id F3
  obtain⟨_,p0,p1,p2,r0,r1,r2⟩:=id S3.box
  go_upto_region 7 with fail
  have S4:=S3.nrr u1
  have F4:=F3.setO (D:=G) (i:=1) (u:=.int .u32 gq) (by omega)
  clear f0 f1 f2 p0 p1 p2 r0 r1 r2 S3 F3
  generalize W3.setCell ⟨G,1,none⟩ (.int .u32 gq)=W4 at*
  go_wp2_with fail
  try simp only[eq]
  go_loopw [7](fun u wr=>∃(i:Nat)(xs:List Int),i<=6∧u=.int .i64 (i:Int)∧OtS w wr G g fq gq xs∧Box3 wr F (.int .u32 fq) (.int .u32 gq) (.slice (some ⟨b',o',none⟩) 6 c'))(fun u _=>6-(intOf u).toNat)
  case atStart=>exact⟨0,_,by omega,rfl,S4,F4⟩
  case round=>
   clear S4 F4
   obtain⟨i,xs,hi6,rfl,S5,F5⟩:=hrel
   rename World=>wr
   by_cases hi:i<6
   ·have hi':(i:Int)<6:=by omega
    obtain⟨y,ey,uy⟩:=d3 wr S5.b i hi
    obtain⟨z0,z1,z2⟩:=S5.cell hi
    obtain⟨_,f0,f1,f2,_,_,_⟩:=id F5
    obtain⟨_,p0,p1,p2,r0,r1,r2⟩:=id S5.box
    have HQ:Hid (∀nq,OtS w ((wr.drewN nq).setCell ⟨g,i,none⟩ (.int .u64 y)) G g fq gq (xs.set i y)∧Box3 ((wr.drewN nq).setCell ⟨g,i,none⟩ (.int .u64 y)) F (.int .u32 fq) (.int .u32 gq) (.slice (some ⟨b',o',none⟩) 6 c')):=fun nq=>⟨(S5.keep (below_drewN (Below.refl _ _) nq)).put hi uy,(F5.keep (below_drewN (Below.refl _ _) nq)).setO (by omega)⟩
    clear S5 F5
    go_wp2_with fail
    go_region_law(fail)
    all_goals
     obtain⟨Q1,Q2⟩:=HQ.out 1
     clear HQ ey z0 z1 z2 f0 f1 f2 p0 p1 p2 r0 r1 r2
     go_wp2
     go_roundw
     case rel=>exact⟨i+1,_,by omega,by go_num,Q1,Q2⟩
     case measure=>simp[intOf];omega
   ·obtain rfl:i=6:=by omega
    clear d3 F5
    go_wp2_with fail
    refine(HT1.out _ S5.b).mono ?_
    rintro _ w6⟨x1,rfl,x10,x11,hb6⟩
    have S6:=S5.keep hb6
    obtain⟨q6,hq6,eq6⟩:=mod_nat (n:=n) x10 (by omega)
    have hq6':(q6:Int)<(n:Int):=by omega
    obtain⟨b6,o6,b7,o7,c7,e6,d0,d1,d2,d3⟩:=HC.out w6 S6.b q6 hq6
    cases e6
    clear hb6 S5 HT1 HC HU
    generalize fa q6=fq6 at*
    generalize fn q6=gq6 at*
    have F1:=Box3.new w6 39 (.int .u32 fq6) (.int .u32 gq6) (.slice (some ⟨b7,o7,none⟩) 6 c7)
    have S7:=S6.keep ((Below.refl _ w6).alloc (Nat.le_refl _) (.cells #[.int .u32 fq6,.int .u32 gq6,.slice (some ⟨b7,o7,none⟩) 6 c7] 39))
    have hF6:G<w6.heap.size:=S6.box.lt
    have hFg6:g<w6.heap.size:=(S6.own.lt g rfl).2
    go_upto_region 12 with fail
    clear d0 d1 d2 S6
    generalize w6.alloc (.cells #[.int .u32 fq6,.int .u32 gq6,.slice (some ⟨b7,o7,none⟩) 6 c7] 39)=W7 at*
    generalize w6.heap.size=F6 at*
    obtain⟨_,f0,f1,f2,_,_,_⟩:=id F1
    obtain⟨_,p0,p1,p2,r0,r1,r2⟩:=id S7.box
    have S7d:=S7.keep ((Below.refl _ W7).drew)
    have F7d:=F1.keep ((Below.refl _ W7).drew)
    go_wp2_with fail
    go_region_law(first
     |(go_simp;go_at_call 37;refine(HT2.out _ S7d.b).mono ?_;rintro _ w8⟨x2,rfl,x20,x21,hb8⟩;have S8:=S7d.keep hb8;have F8:=F7d.keep hb8;obtain⟨q2,hq2,eq2⟩:=mod_six x20;have tq2:x2.tmod 6=(q2:Int):=(Int.tmod_eq_emod_of_nonneg x20).trans eq2;obtain⟨_,f0,f1,f2,_,_,_⟩:=id F8;obtain⟨_,p0,p1,p2,r0,r1,r2⟩:=id S8.box;dsimp only)
     |(go_simp;go_at_call 37;refine(HT2.out _ S8.b).mono ?_;rintro _ w9⟨x3,rfl,x30,x31,hb9⟩;have S9:=S8.keep hb9;have F9:=F8.keep hb9;obtain⟨q3,hq3,eq3⟩:=mod_six x30;have tq3:x3.tmod 6=(q3:Int):=(Int.tmod_eq_emod_of_nonneg x30).trans eq3;obtain⟨y,ey,uy⟩:=d3 w9 S9.b q3 hq3;obtain⟨z0,z1,z2⟩:=S9.cell hq2;obtain⟨_,f0,f1,f2,_,_,_⟩:=id F9;obtain⟨_,p0,p1,p2,r0,r1,r2⟩:=id S9.box;have hq2':(q2:Int)<6:=(by omega);have hq3':(q3:Int)<6:=(by omega);dsimp only))
    all_goals
     have T:=S9.put hq2 uy
     exact TAIL.out _ _ _ _ _ _ _ _ _ _ _ _ _ _ _ _ _ _ _ _ _ _ _ _ _ _ _ _ _ _ _ _ _ _ _ _ _ _ _ _ _ _ _ _ _ _ _ _ _ _ _ _ _ _ _ _ _ _ _ _ _ _ _ _ _ _ _ _ _ _ _ _ _ _ _ _ _ _ _ _ _ _ _ _ _ _ _ _ _ _ _ _ _ _ _ _ _ _ _ _ _ _ _ _ _ _ _ _ _ _ _ _ _ _ _ _ _ _ _ _ _ _ _ _ _ _ _ _ _ _ _ _ _ _ _ _ _ _ _ _ _ _ _ _ _ _ _ _ _ _ _ _ _ _ _ T
end Go.Proofs.YtddemlfepjkgoaaGreat
