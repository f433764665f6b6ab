import Derived.Test.YtddemlfepjkgoaaGreatQ49
set_option linter.all false
set_option maxRecDepth 200000
set_option maxHeartbeats 16000000
namespace Go.Proofs.YtddemlfepjkgoaaGreat
open Go.RowKit Go.Deep
theorem drawCalls_any (R cap : Nat) (a : Option Addr) (l : List Int) (j : Nat) (w : World) (hR : Rd w R a cap l j) :
    Calls Tryz.prog 16 #[.pointer (some ⟨R, 0, none⟩)] w fun e w' => ∃ v os, e = .returned v ∧ os.map Prod.fst = (callsD l j).1 ∧ CsS w w' R a cap l (callsD l j).2 v os := by
  obtain ⟨i0, hi0, hz0, hz1, hz2⟩ := info_parts infoCall
  have hby : Hid (∀ t, 0 <= l.getD t 0 ∧ l.getD t 0 <= 255) := isBytes_getD hR.bys
  have HBy : Hid (isBytes l) := hR.bys
  have HN := nxH R cap a l
  have HLf : Hid (∀ t W, Rd W R a cap l t -> Calls Tryz.prog 39 #[.pointer (some ⟨R, 0, none⟩)] W fun e w' => e = .returned (.int .i64 ((l.length : Int) - ((min t l.length : Nat) : Int))) ∧ Rd w' R a cap l t ∧ W.grownBy w' (some R)) := fun t W h => left_any R cap a l t W h
  have HCd : Hid (∀ t W, Rd W R a cap l t -> Calls Tryz.prog 40 #[.pointer (some ⟨R, 0, none⟩)] W fun e w' => ∃ v, e = .returned (callV (callD l t) v) ∧ ownsU w' W.heap.size v (callD l t).args ∧ Rd w' R a cap l (callJ l t) ∧ W.grownBy w' (some R)) := fun t W h => drawCall_any R cap a l t W h
  have HCp : Hid (∀ (c : C) aa cp W, USrc W aa c.args -> c.args.length <= 16777216 -> Calls Tryz.prog 41 #[callV c (.slice aa c.args.length cp)] W fun e w' => ∃ v', e = .returned (callV c v') ∧ ownsU w' W.heap.size v' c.args ∧ Below W.heap.size W w') := fun c aa cp W h1 h2 => l2copy_any c aa cp W h1 h2
  have HNe : Hid (∀ v t W, isU v -> Rd W R a cap l t -> Calls Tryz.prog 42 #[.int .u64 v, .pointer (some ⟨R, 0, none⟩)] W fun e w' => e = .returned (.int .u64 (nearV v l t)) ∧ Rd w' R a cap l (nearJ l t) ∧ W.grownBy w' (some R)) := fun v t W h1 h2 => near_any v R cap a l t W h1 h2
  have hx0 := hby.out j
  obtain ⟨N, hN⟩ : ∃ N : Nat, (N : Int) = l.getD j 0 % 40 := ⟨(l.getD j 0 % 40).toNat, by omega⟩
  have hN39 : N <= 39 := by omega
  obtain ⟨RES, hRES⟩ : ∃ RES, callsD l j = RES := ⟨_, rfl⟩
  have HG0 : Hid (goC l (N - 0) 0 [] (j + 1) = RES) := by unfold Hid; rw [<- hRES]; unfold callsD; rw [show (l.getD j 0 % 40).toNat = N by omega]; rfl
  rw [hRES]
  clear hRES
  have HN0 := nx1 R cap a l j (j + 1) rfl
  have hRw := hR.lt
  generalize l.getD j 0 = x0 at *
  have HNe0 : Hid ((N : Int) = x0 % 40) := hN
  clear hN
  go_enter Tryz.func16, Tryz.ntmps16
  go_wp2_with fail
  refine (HN0.out _ hR).mono ?_
  rintro _ w1 ⟨rfl, hR1, hg1⟩
  have S1 : CsS w w1 R a cap l (j + 1) (.slice none 0 0) [] := ⟨hR1, ⟨World.ownsRow_nil _ _ _ _, fun p hp => by simp at hp⟩, hg1, hRw⟩
  clear hR1 hg1 HN0
  go_wp2_with fail
  rw [<- HNe0.out]
  clear HNe0 hx0
  go_loopw [4, 5] (fun s u wr => ∃ (v : Value) (i jj : Nat) (os : List (C × Value)), v = s ∧ u = .int .i64 (i : Int) ∧ i <= N ∧ CsS w wr R a cap l jj v os ∧ Hid (∀ c ∈ os.map Prod.fst, Ok6 c) ∧ Hid (os.length <= i) ∧ Hid (goC l (N - i) i (os.map Prod.fst) jj = RES)) (fun _ u _ => N - (intOf u).toNat)
  case atStart => exact ⟨_, 0, j + 1, [], rfl, rfl, by omega, S1, fun c hc => by simp at hc, Nat.zero_le _, HG0⟩
  case round =>
    obtain ⟨v, i, jj, os, rfl, rfl, hiN, S, hok, hol, HG⟩ := hrel
    clear S1 HG0
    by_cases hlt : i < N
    · have hlt' : (i : Int) < (N : Int) := by omega
      obtain ⟨f, hf⟩ : ∃ f, N - i = f + 1 := ⟨N - i - 1, by omega⟩
      have hf2 : N - (i + 1) = f := by omega
      rw [hf] at HG
      have HG1 : Hid ((if i < 2 ∨ jj < l.length then goC l f (i + 1) (os.map Prod.fst ++ [(nxtC l (os.map Prod.fst) jj).1]) (nxtC l (os.map Prod.fst) jj).2 else (os.map Prod.fst, jj)) = RES) := HG
      clear HG
      have hmin : (jj < l.length -> (0 : Int) < (l.length : Int) - ((min jj l.length : Nat) : Int)) ∧ (¬ jj < l.length -> (l.length : Int) - ((min jj l.length : Nat) : Int) = 0) := by omega
      by_cases hin : i < 2 ∨ jj < l.length
      · have HG2 : Hid (goC l f (i + 1) (os.map Prod.fst ++ [(nxtC l (os.map Prod.fst) jj).1]) (nxtC l (os.map Prod.fst) jj).2 = RES) := by have := HG1.out; rw [if_pos hin] at this; exact this
        clear HG1
        obtain ⟨av, cv, ev, hcv, hsrc⟩ := S.mc.src
        subst ev
        have hN2 := HN.out jj
        have hxk := hby.out jj
        generalize hX : l.getD jj 0 = x at *
        have HX : Hid (l.getD jj 0 = x) := hX
        have HN2 : Hid (∀ W, Rd W R a cap l jj -> Calls Tryz.prog 13 #[.pointer (some ⟨R, 0, none⟩)] W fun e w' => e = .returned (.int .i64 x) ∧ Rd w' R a cap l (jj + 1) ∧ W.grownBy w' (some R)) := hN2
        clear hN2 hX
        by_cases hi2 : i < 2
        case' pos =>
          have hi2' : (i : Int) < 2 := by omega
          clear hmin
          go_wp2_with fail
          have S2 := S
        case' neg =>
          have hi2' : ¬ (i : Int) < 2 := by omega
          have hle := hmin.1 (by omega)
          clear hmin
          go_wp2_with fail
          refine (HLf.out _ _ S.rd).mono ?_
          rintro _ w2 ⟨rfl, hR2, hg2⟩
          have S2 := S.draw hR2 hg2
          go_wp2_with fail
        all_goals
          refine (HN2.out _ S2.rd).mono ?_
          rintro _ w3 ⟨rfl, hR3, hg3⟩
          have S3 := S2.draw hR3 hg3
          clear hR3 hg3 S2 S HN2 hsrc
          have hsw : w.heap.size <= w3.heap.size := S3.gr.size
          by_cases hA : x % 8 < 2 ∨ os.length = 0
          · have HG3 : Hid (goC l f (i + 1) (os.map Prod.fst ++ [callD l (jj + 1)]) (callJ l (jj + 1)) = RES) := by
              have := HG2.out
              have e : nxtC l (os.map Prod.fst) jj = (callD l (jj + 1), callJ l (jj + 1)) := by
                unfold nxtC; rw [HX.out, List.length_map, if_pos hA]
              rw [e] at this; exact this
            have HO : Hid (Ok6 (callD l (jj + 1))) := callD_ok l HBy.out (jj + 1)
            have HCd2 : Hid (∀ W, Rd W R a cap l (jj + 1) -> Calls Tryz.prog 40 #[.pointer (some ⟨R, 0, none⟩)] W fun e w' => ∃ v, e = .returned (callV (callD l (jj + 1)) v) ∧ ownsU w' W.heap.size v (callD l (jj + 1)).args ∧ Rd w' R a cap l (callJ l (jj + 1)) ∧ W.grownBy w' (some R)) := fun W h => HCd.out (jj + 1) W h
            clear HG2 HN HLf HCd HCp HNe HX
            generalize callD l (jj + 1) = c at *
            generalize callJ l (jj + 1) = jc at *
            have hA' : x % 8 < 2 ∨ (¬ x % 8 < 2 ∧ (os.length : Int) = 0) := by omega
            clear hA
            rcases hA' with hA1 | ⟨hA1, hA2⟩
            all_goals
              go_wp2_with fail
              refine (HCd2.out _ S3.rd).mono ?_
              rintro _ w4 ⟨va, rfl, ova, hR4, hg4⟩
              have S4 := S3.draw hR4 hg4
              have hou := ownsU_mono ova hsw
              obtain ⟨aw, cw, ew, _⟩ := ownsU_src hou
              obtain ⟨ar, nr, args⟩ := c
              simp only at ew hou
              have hrow := S4.mc.row
              generalize hna : args.length = na at ew
              subst ew
              clear ova hR4 hg4 S3 HCd2
              have HO2 : Hid (∀ c ∈ (os ++ [((⟨ar, nr, args⟩ : C), Value.slice aw na cw)]).map Prod.fst, Ok6 c) := fun c hc => by
                rw [List.map_append] at hc
                simp only [List.mem_append, List.map_cons, List.map_nil, List.mem_singleton] at hc
                rcases hc with hc | rfl
                · exact hok.out c hc
                · exact HO.out
              have HL2 : Hid ((os ++ [((⟨ar, nr, args⟩ : C), Value.slice aw na cw)]).length <= i + 1) := by have := hol.out; unfold Hid; simp; omega
              have HG4 : Hid (goC l (N - (i + 1)) (i + 1) ((os ++ [((⟨ar, nr, args⟩ : C), Value.slice aw na cw)]).map Prod.fst) jc = RES) := by
                unfold Hid; rw [hf2, List.map_append]; exact HG3.out
              have hol' : os.length <= 39 := by have := hol.out; omega
              clear HO HG3 hok hol
              have hrow2 : World.ownsRow w4 w.heap.size 39 3 (.slice av os.length cv) os.length (cCs os) := hrow
              have hb4 : w.heap.size <= w4.heap.size := S4.gr.size
              go_wp2_with (at_builtin; refine wpList_append_own _ rfl (.tmp 36) (.tmp 39) 23 rfl (w.heap.size) 39 i0 _ 3 32 Tryz.underlying23 hi0 hz0 hz1 hz2 rfl (by decide) _ _ _ rfl (hrow2.alloc _) ⟨w4.heap.size, 0, none⟩ 1 1 (cC (⟨ar, nr, args⟩, .slice aw na cw)) rfl rfl ?c1 (cC_one rfl) ?c3 ?c4 ?c5 ?_)
              case c1 =>
                intro t u ht
                rw [add_at, World.cell?_alloc_at _ _ _ _ (by simp)]
                simpa [cC] using ht
              case c3 => unfold maxLen; omega
              case c4 => omega
              case c5 => simp; omega
              intro vz wz ow gr _
              have S5 := S4.push (p := (⟨ar, nr, args⟩, .slice aw na cw)) hou gr (ownsP_snoc rfl ow)
              clear ow gr S4 hrow hrow2 hou
              go_wp2
              go_roundw
              case rel => exact ⟨_, i + 1, jc, _, rfl, by go_num, by omega, S5, HO2, HL2, HG4⟩
              case measure => simp [intOf]; omega
          · have hA1 : ¬ x % 8 < 2 := by omega
            have hA2 : 0 < os.length := by omega
            have HN3 : Hid (∀ W, Rd W R a cap l (jj + 1) -> Calls Tryz.prog 13 #[.pointer (some ⟨R, 0, none⟩)] W fun e w' => e = .returned (.int .i64 (l.getD (jj + 1) 0)) ∧ Rd w' R a cap l (jj + 2) ∧ W.grownBy w' (some R)) := fun W h => HN.out (jj + 1) W h
            have hy := hby.out (jj + 1)
            generalize hY : l.getD (jj + 1) 0 = y at *
            have HY : Hid (l.getD (jj + 1) 0 = y) := hY
            clear hY hA
            have hA3 : ¬ (os.length : Int) = 0 := by omega
            obtain ⟨q, hq⟩ : ∃ q : Nat, (q : Int) = y % (os.length : Int) := ⟨(y % (os.length : Int)).toNat, by have := Int.emod_nonneg y (show (os.length : Int) ≠ 0 by omega); omega⟩
            have hql : q < os.length := by have := Int.emod_lt_of_pos y (show (0 : Int) < os.length by omega); omega
            generalize hnn : os.length = nn at *
            have HNN : Hid (os.length = nn) := hnn
            clear hnn
            have Hq : Hid ((q : Int) = y % (nn : Int)) := hq
            clear hq
            have hA4 : (decide (x % 8 < 2) || ((nn : Int) == 0)) = false := by simp; omega
            go_wp2_with fail
            refine (HN3.out _ S3.rd).mono ?_
            rintro _ w4 ⟨rfl, hR4, hg4⟩
            have S4 := S3.draw hR4 hg4
            clear hR4 hg4 S3 HN3
            obtain ⟨b, o, eb, hbl, hat⟩ : ∃ b o, av = some ⟨b, o, none⟩ ∧ b < w4.heap.size ∧ CAt w4 b o (os.map Prod.fst) := by
              obtain ⟨aS, cS, e, _, hs⟩ := S4.mc.src
              simp only [Value.slice.injEq] at e
              obtain ⟨rfl, _, _⟩ := e
              rcases hs with h0 | h0
              · have := congrArg List.length h0
                rw [List.length_map, HNN.out] at this; simp at this; omega
              · exact h0
            subst eb
            obtain ⟨c0, c1, aa, ca, c2, hus⟩ := hat q (by rw [List.length_map, HNN.out]; exact hql)
            have HO : Hid (Ok6 ((os.map Prod.fst).getD q C.zero)) := by
              refine hok.out _ ?_
              rw [List.getD_eq_getElem?_getD, List.getElem?_eq_getElem (by rw [List.length_map, HNN.out]; exact hql)]
              exact List.getElem_mem _
            have hqn : (y % (nn : Int)).toNat = q := by rw [<- Hq.out]; simp
            have hqa : (0 : Int) <= y % (nn : Int) := by rw [<- Hq.out]; omega
            have hqb : y % (nn : Int) < (nn : Int) := by rw [<- Hq.out]; omega
            have HG4 : Hid (goC l f (i + 1) (os.map Prod.fst ++ [if x % 8 = 7 then (os.map Prod.fst).getD q C.zero else if x % 8 < 5 then nearA ((os.map Prod.fst).getD q C.zero) (l.getD (jj + 2) 0 % 6).toNat l (jj + 3) else nearA (nearA ((os.map Prod.fst).getD q C.zero) (l.getD (jj + 2) 0 % 6).toNat l (jj + 3)) (l.getD (nearJ l (jj + 3)) 0 % 3).toNat l (nearJ l (jj + 3) + 1)])
                (if x % 8 = 7 then jj + 2 else if x % 8 < 5 then nearJ l (jj + 3) else nearJ l (nearJ l (jj + 3) + 1)) = RES) := by
              have h := HG2.out
              unfold nxtC at h
              rw [HX.out, HY.out, List.length_map, HNN.out, hqn, if_neg (by omega)] at h
              by_cases h7 : x % 8 = 7
              · rw [if_pos h7] at h; rw [if_pos h7, if_pos h7]; exact h
              · rw [if_neg h7] at h; rw [if_neg h7, if_neg h7]
                by_cases h5 : x % 8 < 5
                · rw [if_pos h5] at h; rw [if_pos h5, if_pos h5]; exact h
                · rw [if_neg h5] at h; rw [if_neg h5, if_neg h5]; exact h
            clear HG2 HX HY Hq hat HCd HLf
            generalize (os.map Prod.fst).getD q C.zero = cc at *
            have hol' : nn <= 39 := by have := hol.out; omega
            have h6 := HO.out.2
            obtain ⟨ar, nr, args⟩ := cc
            simp only at c0 c1 c2 hus h6
            have HCp2 : Hid (Calls Tryz.prog 41 #[.agg #[.int .u32 ar, .int .u32 nr, .slice aa 6 ca]] w4 fun e w' => ∃ v', e = .returned (callV ⟨ar, nr, args⟩ v') ∧ ownsU w' w4.heap.size v' args ∧ Below w4.heap.size w4 w') := by
              have := HCp.out ⟨ar, nr, args⟩ aa ca w4 hus (by simp only; omega)
              simp only [h6] at this
              exact this
            rw [h6] at c2
            clear HCp hus
            go_wp2_with fail
            refine HCp2.out.mono ?_
            rintro _ w5 ⟨v5, rfl, ov5, hb5⟩
            obtain ⟨g, cp, e5, _, _⟩ := ownsU_at ov5 (by omega)
            rw [h6] at e5
            subst e5
            have P6 := CpS.new (ar := ar) (nr := nr) S4 hb5 ov5 h6
            clear HCp2 ov5 hb5 c0 c1 c2 S4
            have hrowE : ∀ {W2 : World} {jE : Nat} {G2 : Nat} {aE : List Int}, CpS w W2 R a cap l jE (.slice (some ⟨b, o, none⟩) nn cv) os G2 ar nr g cp aE -> World.ownsRow W2 w.heap.size 39 3 (.slice (some ⟨b, o, none⟩) nn cv) nn (cCs os) := fun P => by have := P.cs.mc.row; rw [ownsP, HNN.out] at this; exact this
            have HrowE : Hid (∀ {W2 : World} {jE : Nat} {G2 : Nat} {aE : List Int}, CpS w W2 R a cap l jE (.slice (some ⟨b, o, none⟩) nn cv) os G2 ar nr g cp aE -> World.ownsRow W2 w.heap.size 39 3 (.slice (some ⟨b, o, none⟩) nn cv) nn (cCs os)) := hrowE
            clear hrowE
            have HLE : Hid (∀ aE : List Int, (os ++ [((⟨ar, nr, aE⟩ : C), Value.slice (some ⟨g, 0, none⟩) 6 cp)]).length <= i + 1) := fun aE => by have := hol.out; rw [List.length_append, HNN.out]; simp; omega
            have HOE : Hid (∀ aE : List Int, Ok6 ⟨ar, nr, aE⟩ -> ∀ c ∈ (os ++ [((⟨ar, nr, aE⟩ : C), Value.slice (some ⟨g, 0, none⟩) 6 cp)]).map Prod.fst, Ok6 c) := fun aE hE c hc => by
              rw [List.map_append] at hc
              simp only [List.mem_append, List.map_cons, List.map_nil, List.mem_singleton] at hc
              rcases hc with hc | rfl
              · exact hok.out c hc
              · exact hE
            clear hok hol
            by_cases h7 : x % 8 = 7
            · have h7' : ¬ x % 8 < 7 := by omega
              have HGE : Hid (goC l (N - (i + 1)) (i + 1) ((os ++ [((⟨ar, nr, args⟩ : C), Value.slice (some ⟨g, 0, none⟩) 6 cp)]).map Prod.fst) (jj + 2) = RES) := by
                have := HG4.out
                rw [if_pos h7, if_pos h7] at this
                unfold Hid; rw [hf2, List.map_append]; exact this
              have HO2 := HOE.out args HO.out
              have HL2 := HLE.out args
              clear HG4 HO HN HNe
              have hrow2 := HrowE.out P6
              have ez : (w5.alloc (.cells #[.int .u32 ar, .int .u32 nr, .slice (some ⟨g, 0, none⟩) 6 cp] 39)).heap.size = w5.heap.size + 1 := by simp
              have hbz := P6.hG
              go_wp2_with (at_builtin; refine wpList_append_own _ rfl (.tmp 82) (.tmp 84) 23 rfl (w.heap.size) 39 i0 _ 3 32 Tryz.underlying23 hi0 hz0 hz1 hz2 rfl (by decide) _ _ _ rfl (hrow2.alloc _) ⟨w5.heap.size + 1, 0, none⟩ 1 1 (cC (⟨ar, nr, args⟩, .slice (some ⟨g, 0, none⟩) 6 cp)) rfl rfl ?c1 (cC_one rfl) ?c3 ?c4 ?c5 ?_)
              case c1 =>
                intro t u ht
                rw [add_at, <- ez, World.cell?_alloc_at _ _ _ _ (by simp)]
                simpa [cC] using ht
              case c3 => unfold maxLen; omega
              case c4 => omega
              case c5 => simp; omega
              intro vz wz ow gr _
              have S9 := P6.cs.push (p := (⟨ar, nr, args⟩, .slice (some ⟨g, 0, none⟩) 6 cp)) P6.own gr (ownsP_snoc (by rw [HNN.out]) ow)
              clear ow gr P6 hrow2
              go_wp2
              go_roundw
              case rel => exact ⟨_, i + 1, jj + 2, _, rfl, by go_num, by omega, S9, HO2, HL2, HGE⟩
              case measure => simp [intOf]; omega
            · have h7' : x % 8 < 7 := by omega
              have HG5 : Hid (goC l f (i + 1) (os.map Prod.fst ++ [if x % 8 < 5 then nearA ⟨ar, nr, args⟩ (l.getD (jj + 2) 0 % 6).toNat l (jj + 3) else nearA (nearA ⟨ar, nr, args⟩ (l.getD (jj + 2) 0 % 6).toNat l (jj + 3)) (l.getD (nearJ l (jj + 3)) 0 % 3).toNat l (nearJ l (jj + 3) + 1)])
                  (if x % 8 < 5 then nearJ l (jj + 3) else nearJ l (nearJ l (jj + 3) + 1)) = RES) := by
                have := HG4.out
                rw [if_neg h7, if_neg h7] at this; exact this
              have HN4 : Hid (∀ W, Rd W R a cap l (jj + 2) -> Calls Tryz.prog 13 #[.pointer (some ⟨R, 0, none⟩)] W fun e w' => e = .returned (.int .i64 (l.getD (jj + 2) 0)) ∧ Rd w' R a cap l (jj + 3) ∧ W.grownBy w' (some R)) := fun W h => HN.out (jj + 2) W h
              have hz := hby.out (jj + 2)
              clear HG4
              generalize l.getD (jj + 2) 0 = z at *
              obtain ⟨q1, hq1⟩ : ∃ q1 : Nat, (z % 6).toNat = q1 := ⟨_, rfl⟩
              have hq16 : q1 < 6 := by omega
              rw [hq1] at HG5
              have HO1 : Hid (Ok6 (nearA ⟨ar, nr, args⟩ q1 l (jj + 3))) := nearA_ok HO.out q1 l HBy.out (jj + 3)
              have hiu : isU (args.getD q1 0) := by
                have hlt : q1 < args.length := by omega
                rw [List.getD_eq_getElem?_getD, List.getElem?_eq_getElem hlt]
                exact HO.out.1.2.2.2.2 _ (List.getElem_mem hlt)
              have HNe2 : Hid (∀ W, Rd W R a cap l (jj + 3) -> Calls Tryz.prog 42 #[.int .u64 (args.getD q1 0), .pointer (some ⟨R, 0, none⟩)] W fun e w' => e = .returned (.int .u64 (nearV (args.getD q1 0) l (jj + 3))) ∧ Rd w' R a cap l (nearJ l (jj + 3)) ∧ W.grownBy w' (some R)) := fun W h => HNe.out _ _ W hiu h
              have hz60 : 0 <= z % 6 := by omega
              have hz66 : z % 6 < 6 := by omega
              obtain ⟨hza, hzb⟩ := hz
              clear HO hiu
              unfold nearA at HG5 HO1
              simp only at HG5 HO1
              generalize hx1 : args.getD q1 0 = x1 at *
              have HX1 : Hid (args.getD q1 0 = x1) := hx1
              clear hx1
              generalize nearV x1 l (jj + 3) = y1 at *
              generalize nearJ l (jj + 3) = j1 at *
              go_wp2_with fail
              generalize w5.alloc (.cells #[.int .u32 ar, .int .u32 nr, .slice (some ⟨g, 0, none⟩) 6 cp] 39) = W6 at *
              generalize w5.heap.size = G at *
              refine (HN4.out _ P6.cs.rd).mono ?_
              rintro _ w7 ⟨rfl, hR7, hg7⟩
              have P7 := P6.draw hR7 hg7
              clear hR7 hg7 P6 HN4
              go_wp2_with fail
              have P7d := P7.drew
              have c2 := P7d.box.c2
              obtain ⟨d1, d2⟩ := P7d.cell hq16
              have ex1 : args.getD q1 0 = x1 := HX1.out
              rw [ex1] at d1
              apply wp_cut (R := fun W' => CpS w W' R a cap l j1 (.slice (some ⟨b, o, none⟩) nn cv) os G ar nr g cp (args.set q1 y1))
              case h =>
                go_region_law (first
                  | (go_simp; go_at_call 42; refine (HNe2.out _ P7d.cs.rd).mono ?_; rintro _ w8 ⟨rfl, hR8, hg8⟩; have P8 := P7d.draw hR8 hg8; have c8 := P8.box.c2; obtain ⟨d8, f8⟩ := P8.cell hq16; rw [ex1] at d8; have P9 := P8.put hq16 y1; go_wp2_with fail))
                all_goals exact CutQ.mk rfl P9
              intro W8 P8
              clear P7 P7d c2 d1 d2 HNe2
              generalize args.set q1 y1 = args1 at *
              by_cases h5 : x % 8 < 5
              case' pos =>
                have h5' : ¬ (4 : Int) < x % 8 := by omega
                have HGE : Hid (goC l (N - (i + 1)) (i + 1) ((os ++ [((⟨ar, nr, args1⟩ : C), Value.slice (some ⟨g, 0, none⟩) 6 cp)]).map Prod.fst) j1 = RES) := by
                  have := HG5.out
                  rw [if_pos h5, if_pos h5] at this
                  unfold Hid; rw [hf2, List.map_append]; exact this
                have HO2 := HOE.out args1 HO1.out
                have HL2 := HLE.out args1
                have PE := P8
                clear HG5 HO1 HN HNe P8
              case' neg =>
                have h5' : (4 : Int) < x % 8 := by omega
                have HG6 : Hid (goC l f (i + 1) (os.map Prod.fst ++ [nearA ⟨ar, nr, args1⟩ (l.getD j1 0 % 3).toNat l (j1 + 1)]) (nearJ l (j1 + 1)) = RES) := by
                  have := HG5.out
                  rw [if_neg h5, if_neg h5] at this; exact this
                have HN5 : Hid (∀ W, Rd W R a cap l j1 -> Calls Tryz.prog 13 #[.pointer (some ⟨R, 0, none⟩)] W fun e w' => e = .returned (.int .i64 (l.getD j1 0)) ∧ Rd w' R a cap l (j1 + 1) ∧ W.grownBy w' (some R)) := fun W h => HN.out j1 W h
                obtain ⟨hya, hyb⟩ := hby.out j1
                clear HG5
                generalize l.getD j1 0 = z2 at *
                obtain ⟨q2, hq2⟩ : ∃ q2 : Nat, (z2 % 3).toNat = q2 := ⟨_, rfl⟩
                have hq26 : q2 < 6 := by omega
                rw [hq2] at HG6
                have HO3 : Hid (Ok6 (nearA ⟨ar, nr, args1⟩ q2 l (j1 + 1))) := nearA_ok HO1.out q2 l HBy.out (j1 + 1)
                have hiu : isU (args1.getD q2 0) := by
                  have hlt : q2 < args1.length := by have := P8.len; omega
                  rw [List.getD_eq_getElem?_getD, List.getElem?_eq_getElem hlt]
                  exact HO1.out.1.2.2.2.2 _ (List.getElem_mem hlt)
                have HNe3 : Hid (∀ W, Rd W R a cap l (j1 + 1) -> Calls Tryz.prog 42 #[.int .u64 (args1.getD q2 0), .pointer (some ⟨R, 0, none⟩)] W fun e w' => e = .returned (.int .u64 (nearV (args1.getD q2 0) l (j1 + 1))) ∧ Rd w' R a cap l (nearJ l (j1 + 1)) ∧ W.grownBy w' (some R)) := fun W h => HNe.out _ _ W hiu h
                have hz30 : 0 <= z2 % 3 := by omega
                have hz36 : z2 % 3 < 6 := by omega
                clear HO1 hiu
                unfold nearA at HG6 HO3
                simp only at HG6 HO3
                generalize hx2 : args1.getD q2 0 = x2 at *
                have HX2 : Hid (args1.getD q2 0 = x2) := hx2
                clear hx2
                generalize nearV x2 l (j1 + 1) = y2 at *
                generalize nearJ l (j1 + 1) = j2 at *
                go_wp2_with fail
                refine (HN5.out _ P8.cs.rd).mono ?_
                rintro _ w10 ⟨rfl, hR10, hg10⟩
                have P10 := P8.draw hR10 hg10
                clear hR10 hg10 P8 HN5
                go_wp2_with fail
                have P10d := P10.drew
                have c2 := P10d.box.c2
                obtain ⟨d1, d2⟩ := P10d.cell hq26
                have ex2 : args1.getD q2 0 = x2 := HX2.out
                rw [ex2] at d1
                apply wp_cut (R := fun W' => CpS w W' R a cap l j2 (.slice (some ⟨b, o, none⟩) nn cv) os G ar nr g cp (args1.set q2 y2))
                case h =>
                  go_region_law (first
                    | (go_simp; go_at_call 42; refine (HNe3.out _ P10d.cs.rd).mono ?_; rintro _ w8 ⟨rfl, hR8, hg8⟩; have P11 := P10d.draw hR8 hg8; have c8 := P11.box.c2; obtain ⟨d8, f8⟩ := P11.cell hq26; rw [ex2] at d8; have P12 := P11.put hq26 y2; go_wp2_with fail))
                  all_goals exact CutQ.mk rfl P12
                intro W12 PE
                clear P10 P10d c2 d1 d2 HNe3
                generalize args1.set q2 y2 = args2 at *
                have HGE : Hid (goC l (N - (i + 1)) (i + 1) ((os ++ [((⟨ar, nr, args2⟩ : C), Value.slice (some ⟨g, 0, none⟩) 6 cp)]).map Prod.fst) j2 = RES) := by
                  unfold Hid; rw [hf2, List.map_append]; exact HG6.out
                have HO2 := HOE.out args2 HO3.out
                have HL2 := HLE.out args2
                clear HG6 HO3 HN HNe ex2 HX2
                clear HX1 ex1 W8
                generalize args1 = argsO at *
                generalize args2 = args1 at *
                generalize j1 = jO at *
                generalize j2 = j1 at *
                generalize W12 = W8 at *
              all_goals
                have hrow2 := HrowE.out PE
                have hbz := PE.cs.gr.size
                obtain ⟨_, c0, c1, c2, _, _, _⟩ := PE.box
                clear HrowE HOE HLE
                go_wp2_with (at_builtin; refine wpList_append_own _ rfl (.tmp 82) (.tmp 84) 23 rfl (w.heap.size) 39 i0 _ 3 32 Tryz.underlying23 hi0 hz0 hz1 hz2 rfl (by decide) _ _ _ rfl (hrow2.alloc _) ⟨W8.heap.size, 0, none⟩ 1 1 (cC (⟨ar, nr, args1⟩, .slice (some ⟨g, 0, none⟩) 6 cp)) rfl rfl ?c1 (cC_one rfl) ?c3 ?c4 ?c5 ?_)
                case c1 =>
                  intro t u ht
                  first
                    | (rw [add_at, World.cell?_alloc_at _ _ _ _ (by simp)]; simpa [cC] using ht)
                    | (simpa [cC] using ht)
                case c3 => unfold maxLen; omega
                case c4 => omega
                case c5 => first | omega | (simp; omega)
                intro vz wz ow gr _
                have S9 := PE.cs.push (p := (⟨ar, nr, args1⟩, .slice (some ⟨g, 0, none⟩) 6 cp)) PE.own gr (ownsP_snoc (by rw [HNN.out]) ow)
                clear ow gr PE hrow2 c0 c1 c2
                go_wp2
                go_roundw
                case rel => exact ⟨_, i + 1, j1, _, rfl, by go_num, by omega, S9, HO2, HL2, HGE⟩
                case measure => simp [intOf]; omega
      · have hres : (os.map Prod.fst, jj) = RES := by have := HG1.out; rw [if_neg hin] at this; exact this
        have hle := hmin.2 (by omega)
        have hi2' : ¬ (i : Int) < 2 := by omega
        subst hres
        clear HG1 hmin HN HCd HCp HNe
        go_wp2_with fail
        refine (HLf.out _ _ S.rd).mono ?_
        rintro _ w2 ⟨rfl, hR2, hg2⟩
        have S2 := S.draw hR2 hg2
        clear hR2 hg2 S HLf
        rw [hle]
        go_wp2
        go_ret
        exact ⟨_, rfl, os, rfl, S2⟩
    · obtain rfl : i = N := by omega
      have hres : (os.map Prod.fst, jj) = RES := by have := HG.out; rw [Nat.sub_self] at this; exact this
      subst hres
      clear HG HN HCd HCp HNe HLf
      go_wp2
      go_ret
      exact ⟨_, rfl, os, rfl, S⟩
end Go.Proofs.YtddemlfepjkgoaaGreat
