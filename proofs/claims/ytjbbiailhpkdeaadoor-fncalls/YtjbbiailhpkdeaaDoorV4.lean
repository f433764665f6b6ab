/-
  CalE, CalF
-/
import Derived.Test.YtjbbiailhpkdeaaDoorV3
namespace Go.Proofs.YtjbbiailhpkdeaaDoor
open Go.RowKit Go.Deep
set_option linter.unusedVariables false

def manyC (i : Nat) : C := ⟨7, (i : Int) % 9, [(i : Int), (i : Int) * 4294967303, 5, (i : Int) / 3, 0, 1]⟩
def manyL (n : Nat) : List C := (List.range n).map manyC
theorem manyL_succ (n : Nat) : manyL (n + 1) = manyL n ++ [manyC n] := by simp [manyL, List.range_succ]
theorem manyL_len (n : Nat) : (manyL n).length = n := by simp [manyL]
theorem manyC_ok {i : Nat} (h : i ≤ 1001) : Ok6 (manyC i) := by
  refine ⟨⟨by show (0 : Int) ≤ 7; omega, by show (7 : Int) ≤ 4294967295; omega, by show 0 ≤ (i : Int) % 9; omega, by show (i : Int) % 9 ≤ 4294967295; omega, fun v hv => ?_⟩, rfl⟩
  simp only [manyC, List.mem_cons, List.not_mem_nil, or_false] at hv
  unfold isU64
  rcases hv with rfl | rfl | rfl | rfl | rfl | rfl <;> omega
theorem manyL_ok {n : Nat} (h : n ≤ 1001) : ∀ c ∈ manyL n, Ok6 c := by
  intro c hc
  simp only [manyL, List.mem_map, List.mem_range] at hc
  obtain ⟨i, hi, rfl⟩ := hc
  exact manyC_ok (by omega)

theorem ownsU_six (w : World) (x1 x2 x3 x4 x5 x6 : Int) : ownsU (w.alloc (.cells #[.int .u64 x1, .int .u64 x2, .int .u64 x3, .int .u64 x4, .int .u64 x5, .int .u64 x6] 44)) w.heap.size (.slice (some ⟨w.heap.size, 0, none⟩) 6 6) [x1, x2, x3, x4, x5, x6] :=
  ⟨rfl, .inr ⟨w.heap.size, 6, #[.int .u64 x1, .int .u64 x2, .int .u64 x3, .int .u64 x4, .int .u64 x5, .int .u64 x6], rfl, Nat.le_refl _, Go.Deep.blk_alloc_new _ _, Nat.le_refl _, by simp [maxLen], rfl, rfl⟩⟩

set_option maxRecDepth 100000 in
set_option maxHeartbeats 4000000 in
theorem many_any (n : Nat) (w : World) (hn : n ≤ 1001) :
    Calls Tryd.prog 22 #[.int .i64 (n : Int), .int .i64 9] w fun e w' => ∃ v os, e = .returned v ∧ os.map Prod.fst = manyL n ∧ McS w' w.heap.size v os ∧ Below w.heap.size w w' := by
  obtain ⟨i0, hi0, hz0, hz1, hz2⟩ := info_parts infoCall
  have M0 : McS w w.heap.size (.slice none 0 0) [] := ⟨World.ownsRow_nil _ _ _ _, fun p hp => by simp at hp⟩
  go_enter Tryd.func22, Tryd.ntmps22
  go_wp2_with fail
  go_loopw [5, 6] (fun s u wr => ∃ (v : Value) (i : Nat) (os : List (C × Value)), v = s ∧ u = .int .i64 (i : Int) ∧ i ≤ n ∧ McS wr w.heap.size v os ∧ Below w.heap.size w wr ∧ Hid (os.map Prod.fst = manyL i)) (fun _ u _ => n - (intOf u).toNat)
  case atStart => exact ⟨_, 0, [], rfl, rfl, by omega, M0, Below.refl _ _, rfl⟩
  case round =>
    obtain ⟨v, i, os, rfl, rfl, hin, M, hB, hos⟩ := hrel
    clear M0
    by_cases hlt : i < n
    · have hlt' : (i : Int) < (n : Int) := by omega
      obtain ⟨av, cv, ev, _, _⟩ := M.src
      have hoi : os.length = i := by have := congrArg List.length hos.out; rw [List.length_map, manyL_len] at this; exact this
      have hw1 : IntKind.u64.wrap (i : Int) = (i : Int) := by rw [IntKind.wrap_u64]; omega
      have hw2 : IntKind.u64.wrap ((i : Int) * 4294967303) = (i : Int) * 4294967303 := by rw [IntKind.wrap_u64]; omega
      have hw3 : IntKind.u32.wrap ((i : Int) % 9) = (i : Int) % 9 := by rw [IntKind.wrap_u32]; omega
      have hou := ownsU_six wr (i : Int) ((i : Int) * 4294967303) 5 ((i : Int) / 3) 0 1
      have b1 : Below wr.heap.size wr (wr.alloc (.cells #[.int .u64 (i : Int), .int .u64 ((i : Int) * 4294967303), .int .u64 5, .int .u64 ((i : Int) / 3), .int .u64 0, .int .u64 1] 44)) := (Below.refl _ _).alloc (Nat.le_refl _) _
      have M1 := M.below b1
      have B1 := hB.trans (b1.mono hB.size)
      have hou1 := ownsU_mono hou hB.size
      have hbs := hB.size
      have HO2 : Hid ((os ++ [(manyC i, Value.slice (some ⟨wr.heap.size, 0, none⟩) 6 6)]).map Prod.fst = manyL (i + 1)) := by
        unfold Hid; rw [manyL_succ, List.map_append, hos.out]; rfl
      rw [hoi] at ev
      subst ev
      have hrow : World.ownsRow (wr.alloc (.cells #[.int .u64 (i : Int), .int .u64 ((i : Int) * 4294967303), .int .u64 5, .int .u64 ((i : Int) / 3), .int .u64 0, .int .u64 1] 44)) w.heap.size 34 3 (.slice av i cv) i (cCs os) := by have := M1.row; rw [ownsP, hoi] at this; exact this
      have ez : (wr.alloc (.cells #[.int .u64 (i : Int), .int .u64 ((i : Int) * 4294967303), .int .u64 5, .int .u64 ((i : Int) / 3), .int .u64 0, .int .u64 1] 44)).heap.size = wr.heap.size + 1 := by simp
      clear M hB b1 hou hos
      go_wp2_with (at_builtin; refine wpList_append_own _ rfl (.tmp 22) (.tmp 29) 24 rfl (w.heap.size) 34 i0 _ 3 32 Tryd.underlying24 hi0 hz0 hz1 hz2 rfl (by decide) _ _ _ rfl (hrow.alloc _) ⟨wr.heap.size + 1, 0, none⟩ 1 1 (cC (manyC i, .slice (some ⟨wr.heap.size, 0, none⟩) 6 6)) rfl rfl ?c1 (cC_one rfl) ?c3 ?c4 ?c5 ?_)
      case c1 =>
        intro t u ht
        rw [add_at, ← ez, World.cell?_alloc_at _ _ _ _ (by simp)]
        simpa [cC, manyC] using ht
      case c3 => unfold maxLen; omega
      case c4 => omega
      case c5 => first | omega | (simp; omega)
      intro vz wz ow gr _
      have M2 := M1.push (p := (manyC i, .slice (some ⟨wr.heap.size, 0, none⟩) 6 6)) hou1 gr (ownsP_snoc (by rw [hoi]) ow)
      have B2 : Below w.heap.size w wz := (B1.alloc (by rw [ez]; omega) _).grown gr (by simp; omega) (fun t ht => (hrow.lt t ht).1)
      clear ow gr M1 B1 hrow hou1
      go_wp2
      go_roundw
      case rel => exact ⟨_, i + 1, _, rfl, by go_num, by omega, M2, B2, HO2⟩
      case measure => simp [intOf]; omega
    · obtain rfl : i = n := by omega
      go_wp2
      go_ret
      exact ⟨_, os, rfl, hos.out, M, hB⟩
end Go.Proofs.YtjbbiailhpkdeaaDoor
namespace Go.Proofs.YtjbbiailhpkdeaaDoor
open Go.RowKit Go.Deep
set_option linter.unusedVariables false

theorem McS.at {w : World} {B : Nat} {v : Value} {os : List (C × Value)} (h : McS w B v os) (h0 : 0 < os.length) : ∃ b cp, v = .slice (some ⟨b, 0, none⟩) os.length cp ∧ os.length ≤ cp ∧ B ≤ b ∧ b < w.heap.size ∧ (∀ o, w.frozen? ⟨b, o, none⟩ = false) ∧ ∀ p, p < os.length → w.cell? ⟨b, p * 3 + 2, none⟩ = some (os.getD p (C.zero, undef)).2 := by
  obtain ⟨hl, h1 | ⟨b, cp, cur, e, hb, hg, hn, hm, hs, hx⟩⟩ := h.row
  · omega
  · refine ⟨b, cp, e, hn, hb, (Array.getElem?_eq_some_iff.1 hg).1, fun o => by simp [World.frozen?, hg], fun p hp => ?_⟩
    have hu := (cCs_get os p hp).2.2
    rw [← hx, List.getElem?_take, if_pos (by omega)] at hu
    simp only [World.cell?, hg]
    simpa using hu

/-- calls in a row, of which one has not six arguments -/
def BadL (w : World) (e : Ending) (w' : World) : Prop :=
  ∃ b n cp, e = .returned (.slice (some ⟨b, 0, none⟩) n cp) ∧ n ≤ 39 ∧ (∃ ln : Nat → Nat, (∀ p, p < n → ∃ aa ca, w'.cell? ⟨b, p * 3 + 2, none⟩ = some (.slice aa (ln p) ca)) ∧ ∃ p, p < n ∧ ln p ≠ 6) ∧ Below w.heap.size w w'
/-- calls that lie in memory -/
def GoodL (cs : List C) (w : World) (e : Ending) (w' : World) : Prop :=
  ∃ a' cap', e = .returned (.slice a' cs.length cap') ∧ CSrc w' a' cs ∧ Below w.heap.size w w'
theorem GoodL.mk {cs : List C} {w w' : World} {B : Nat} {v : Value} {os : List (C × Value)} (h : McS w' B v os) (e : os.map Prod.fst = cs) (hb : Below w.heap.size w w') : GoodL cs w (.returned v) w' := by
  obtain ⟨a', cap', e1, _, hs⟩ := h.src
  subst e
  exact ⟨a', cap', by rw [e1, List.length_map], hs, hb⟩
theorem BadL.mk {w W : World} {b n cp q m g ca : Nat} (hn : n ≤ 39) (hq : q < n) (hc : ∀ p, p < n → ∃ aa ca, W.cell? ⟨b, p * 3 + 2, none⟩ = some (.slice aa 6 ca)) (hb : Below w.heap.size w (W.setCell ⟨b, q * 3 + 2, none⟩ (.slice (some ⟨g, 0, none⟩) m ca))) (hm : m ≠ 6) :
    BadL w (.returned (.slice (some ⟨b, 0, none⟩) n cp)) (W.setCell ⟨b, q * 3 + 2, none⟩ (.slice (some ⟨g, 0, none⟩) m ca)) := by
  refine ⟨b, n, cp, rfl, hn, ⟨fun p => if p = q then m else 6, fun p hp => ?_, q, hq, by simp [hm]⟩, hb⟩
  obtain ⟨aa, ca', h⟩ := hc p hp
  by_cases e : p = q
  · refine ⟨some ⟨g, 0, none⟩, ca, ?_⟩
    subst e
    simp only [if_pos]
    exact World.cell?_setCell_same _ _ _ h
  · refine ⟨aa, ca', ?_⟩
    simp only [if_neg e]
    rw [← h]
    exact World.cell?_setCell_other _ _ _ _ (fun x => by simp only [Addr.mk.injEq] at x; omega)

set_option maxRecDepth 100000 in
set_option maxHeartbeats 1000000 in
theorem drawEnc_det (l : List Int) (hl : isBytes l) (hn : l.length ≤ 1048576) :
    (∃ cs, (∀ c ∈ cs, Ok6 c) ∧ cs.length ≤ 1001 ∧ ∀ (a : Option Addr) (cap : Nat) (w : World), BSrc w a l → l.length ≤ cap → Calls Tryd.prog 11 #[.slice a l.length cap] w fun e w' => GoodL cs w e w')
    ∨ (∀ (a : Option Addr) (cap : Nat) (w : World), BSrc w a l → l.length ≤ cap → Calls Tryd.prog 11 #[.slice a l.length cap] w fun e w' => BadL w e w') := by
  have hbL := isBytes_take hl 600
  have HOp : Hid (∀ a cap w, BSrc w a l → l.length ≤ cap → Calls Tryd.prog 19 #[.slice a l.length cap] w fun e w' => ∃ R cap', e = .returned (.pointer (some ⟨R, 0, none⟩)) ∧ w.heap.size ≤ R ∧ Rd w' R a cap' (l.take 600) 0 ∧ Below w.heap.size w w') := fun a cap w hs hc => open_any a cap l w hs hl hc hn
  generalize l.take 600 = L at *
  have HN : Hid (∀ j R a cap W, Rd W R a cap L j → Calls Tryd.prog 20 #[.pointer (some ⟨R, 0, none⟩)] W fun e w' => e = .returned (.int .i64 (L.getD j 0)) ∧ Rd w' R a cap L (j + 1) ∧ W.grownBy w' (some R)) := fun j R a cap W h => next_any R cap a L j W h
  have HD : Hid (∀ R a cap W, Rd W R a cap L 1 → Calls Tryd.prog 24 #[.pointer (some ⟨R, 0, none⟩)] W fun e w' => ∃ v os, e = .returned v ∧ os.map Prod.fst = (callsD L 1).1 ∧ CsS W w' R a cap L (callsD L 1).2 v os) := fun R a cap W h => drawCalls_any R cap a L 1 W h
  have HMy : Hid (∀ (n : Nat) W, n ≤ 1001 → Calls Tryd.prog 22 #[.int .i64 (n : Int), .int .i64 9] W fun e w' => ∃ v os, e = .returned v ∧ os.map Prod.fst = manyL n ∧ McS w' W.heap.size v os ∧ Below W.heap.size W w') := fun n W h => many_any n W h
  obtain ⟨hcok, hclen⟩ := callsD_ok hbL 1
  have hb0 := isBytes_getD hbL 0
  have hb1 := isBytes_getD hbL 1
  have HN0 : Hid (∀ R a cap W, Rd W R a cap L 0 → Calls Tryd.prog 20 #[.pointer (some ⟨R, 0, none⟩)] W fun e w' => e = .returned (.int .i64 (L.getD 0 0)) ∧ Rd w' R a cap L 1 ∧ W.grownBy w' (some R)) := HN.out 0
  have HN1 : Hid (∀ R a cap W, Rd W R a cap L 1 → Calls Tryd.prog 20 #[.pointer (some ⟨R, 0, none⟩)] W fun e w' => e = .returned (.int .i64 (L.getD 1 0)) ∧ Rd w' R a cap L 2 ∧ W.grownBy w' (some R)) := HN.out 1
  have HY : Hid (∀ j, 0 ≤ L.getD j 0 ∧ L.getD j 0 ≤ 255) := isBytes_getD hbL
  generalize L.getD 0 0 = x0 at *
  generalize L.getD 1 0 = x1 at *
  generalize callsD L 1 = CJ at *
  obtain ⟨cs, J⟩ := CJ
  simp only at hcok hclen HD
  obtain ⟨ll, hll⟩ : ∃ ll, l.length = ll := ⟨_, rfl⟩
  rw [hll] at HOp ⊢
  clear hll hl hn hbL
  by_cases k0 : x0 % 30 = 0
  · obtain ⟨N, hN⟩ : ∃ N : Nat, (N : Int) = 999 + x1 % 3 := ⟨(999 + x1 % 3).toNat, by omega⟩
    refine .inl ⟨manyL N, manyL_ok (by omega), by rw [manyL_len]; omega, fun a cap w hs hc => ?_⟩
    have HNN : Hid ((N : Int) = 999 + x1 % 3) := hN
    have hN1 : N ≤ 1001 := by omega
    have hx1w : IntKind.i64.wrap (999 + x1 % 3) = 999 + x1 % 3 := by rw [IntKind.wrap_i64]; omega
    clear hN HD HN HY hcok hclen
    go_enter Tryd.func11, Tryd.ntmps11
    go_wp2_with fail
    refine (HOp.out a cap w hs hc).mono ?_
    rintro _ w1 ⟨R, cR, rfl, hR, r1, B1⟩
    have HRq : Hid (∀ q, some R = some q → w.heap.size ≤ q) := fun q hq => by have : R = q := by simpa using hq
                                                                              omega
    go_wp2_with fail
    refine (HN0.out _ _ _ _ r1).mono ?_
    rintro _ w2 ⟨rfl, r2, g2⟩
    have B2 := B1.grown g2 B1.size HRq.out
    go_wp2_with fail
    refine (HN1.out _ _ _ _ r2).mono ?_
    rintro _ w3 ⟨rfl, r3, g3⟩
    have B3 := B2.grown g3 B2.size HRq.out
    clear HOp HN0 HN1 g2 g3 r1 r2 B1 B2
    go_wp2_with fail
    rw [← HNN.out]
    refine (HMy.out N _ hN1).mono ?_
    rintro _ w4 ⟨v, os, rfl, ho, M, b4⟩
    have B4 := B3.trans (b4.mono B3.size)
    have HP : Hid (GoodL (manyL N) w (.returned v) w4) := GoodL.mk M ho B4
    clear M ho b4 B3 HMy HNN
    go_wp2
    go_ret
    exact HP.out
  · have k0' : (x0 % 30 == 0) = false := by simp; exact k0
    by_cases hbad : (x0 % 30 = 1 ∨ x0 % 30 = 2) ∧ 0 < cs.length
    · refine .inr (fun a cap w hs hc => ?_)
      obtain ⟨hb12, hpos⟩ := hbad
      obtain ⟨i1, hi1, hy0, hy1, hy2⟩ := info_parts info61
      have HNJ : Hid (∀ R a cap W, Rd W R a cap L J → Calls Tryd.prog 20 #[.pointer (some ⟨R, 0, none⟩)] W fun e w' => e = .returned (.int .i64 (L.getD J 0)) ∧ Rd w' R a cap L (J + 1) ∧ W.grownBy w' (some R)) := HN.out J
      obtain ⟨hya, hyb⟩ := HY.out J
      generalize L.getD J 0 = y at *
      have Hok : Hid (∀ c ∈ cs, Ok6 c) := hcok
      clear HMy HN HY hcok HN1
      go_enter Tryd.func11, Tryd.ntmps11
      go_wp2_with fail
      refine (HOp.out a cap w hs hc).mono ?_
      rintro _ w1 ⟨R, cR, rfl, hR, r1, B1⟩
      have HRq : Hid (∀ q, some R = some q → w.heap.size ≤ q) := fun q hq => by have : R = q := by simpa using hq
                                                                                omega
      go_wp2_with fail
      refine (HN0.out _ _ _ _ r1).mono ?_
      rintro _ w2 ⟨rfl, r2, g2⟩
      have B2 := B1.grown g2 B1.size HRq.out
      go_wp2_with fail
      refine (HD.out _ _ _ _ r2).mono ?_
      rintro _ w3 ⟨v, os, rfl, ho, S⟩
      have B3 := B2.grown S.gr B2.size HRq.out
      have hol : os.length = cs.length := by rw [← ho, List.length_map]
      have Hok2 : Hid (∀ p ∈ os, p.1.args.length = 6) := fun p hp => (Hok.out p.1 (by rw [← ho]; exact List.mem_map_of_mem hp)).2
      obtain ⟨b, cp, ev, _, _, _, _, _⟩ := S.mc.at (by omega)
      rw [hol] at ev
      subst ev
      clear HOp HN0 g2 r1 r2 B1 ho HD Hok
      have HOl : Hid (os.length = cs.length) := hol
      clear hol
      generalize cs.length = n at *
      have hw2 := B2.size
      obtain ⟨q, hq⟩ : ∃ q : Nat, (q : Int) = y % (n : Int) := ⟨(y % (n : Int)).toNat, by have := Int.emod_nonneg y (show (n : Int) ≠ 0 by omega); omega⟩
      have hqn : q < n := by have := Int.emod_lt_of_pos y (show (0 : Int) < n by omega); omega
      have hq1 : (y % (n : Int)).toNat = q := by rw [← hq]; simp
      have hq2 : (0 : Int) ≤ y % (n : Int) := by rw [← hq]; omega
      have hq3 : y % (n : Int) < (n : Int) := by rw [← hq]; omega
      have hn0 : ¬ (n : Int) = 0 := by omega
      have hnp : (0 : Int) < (n : Int) := by omega
      clear hq
      rcases hb12 with k1 | k2
      · go_wp2_with fail
        refine (HNJ.out _ _ _ _ S.rd).mono ?_
        rintro _ w4 ⟨rfl, r4, g4⟩
        have S4 := S.draw r4 g4
        have B4 := B3.grown g4 B3.size HRq.out
        clear r4 g4 S B3 HNJ
        obtain ⟨b', cp', ev, hcp, hbb, hbl, hfz, hcell⟩ := S4.mc.at (by rw [HOl.out]; omega)
        simp only [Value.slice.injEq, Option.some.injEq, Addr.mk.injEq] at ev
        have eb : b = b' := ev.1.1
        have ec : cp = cp' := ev.2.2
        clear ev
        subst eb ec
        rw [HOl.out] at hcell
        have hmem : ∀ p, p < n → os.getD p (C.zero, undef) ∈ os := fun p hp => by
          have : p < os.length := by rw [HOl.out]; exact hp
          rw [List.getD_eq_getElem?_getD, List.getElem?_eq_getElem this]; exact List.getElem_mem this
        have hcs6 : Hid (∀ p, p < n → ∃ aa ca, w4.cell? ⟨b, p * 3 + 2, none⟩ = some (.slice aa 6 ca)) := fun p hp => by
          obtain ⟨aa, ca, e, _⟩ := ownsU_src (S4.mc.own _ (hmem p hp))
          rw [Hok2.out _ (hmem p hp)] at e
          exact ⟨aa, ca, by rw [hcell p hp, e]⟩
        have hou := S4.mc.own _ (hmem q hqn)
        have h6 := Hok2.out _ (hmem q hqn)
        have cq := hcell q hqn
        have fq := hfz (q * 3 + 2)
        obtain ⟨g, ca, e6, _, _⟩ := ownsU_at hou (by omega)
        have hca : 6 ≤ ca := by
          obtain ⟨_, h | ⟨g2, ca2, cur, e, _, _, hle, _⟩⟩ := hou
          · rw [h6] at h; omega
          · rw [e6] at e; simp at e; rw [h6] at hle; omega
        rw [h6] at e6
        rw [e6] at cq
        have hsl : ∀ wx, (Instr.slice 32 (.slice (some ⟨g, 0, none⟩) 6 ca) none (some (.int .i64 5)) none).run Tryd.prog wx = .ok (.slice (some ⟨g, 0, none⟩) 5 ca) wx := fun wx => by
          have e3 : ¬ ca = 0 := by omega
          rw [run_slice_h (w := wx) 32 _ 6 ca (by kernel_rfl) .i64 5 (by omega) (by omega)]
          simp [go_sem, sliced, e3]
        have BF := B4.setCell (p := ⟨b, q * 3 + 2, none⟩) (by show w.heap.size ≤ b; omega) (.slice (some ⟨g, 0, none⟩) 5 ca)
        have HP : Hid (BadL w (.returned (.slice (some ⟨b, 0, none⟩) n cp)) (w4.setCell ⟨b, q * 3 + 2, none⟩ (.slice (some ⟨g, 0, none⟩) 5 ca))) := BadL.mk hclen hqn hcs6.out BF (by omega)
        clear hcs6 hmem hcell hou S4 B4 BF hfz HOl Hok2 e6 h6
        go_wp2
        go_ret
        exact HP.out
      · go_wp2_with fail
        refine (HNJ.out _ _ _ _ S.rd).mono ?_
        rintro _ w4 ⟨rfl, r4, g4⟩
        have S4 := S.draw r4 g4
        have B4 := B3.grown g4 B3.size HRq.out
        clear r4 g4 S B3 HNJ
        obtain ⟨b', cp', ev, hcp, hbb, hbl, hfz, hcell⟩ := S4.mc.at (by rw [HOl.out]; omega)
        simp only [Value.slice.injEq, Option.some.injEq, Addr.mk.injEq] at ev
        have eb : b = b' := ev.1.1
        have ec : cp = cp' := ev.2.2
        clear ev
        subst eb ec
        rw [HOl.out] at hcell
        have hmem : ∀ p, p < n → os.getD p (C.zero, undef) ∈ os := fun p hp => by
          have : p < os.length := by rw [HOl.out]; exact hp
          rw [List.getD_eq_getElem?_getD, List.getElem?_eq_getElem this]; exact List.getElem_mem this
        have hcs6 : Hid (∀ p, p < n → ∃ aa ca, w4.cell? ⟨b, p * 3 + 2, none⟩ = some (.slice aa 6 ca)) := fun p hp => by
          obtain ⟨aa, ca, e, _⟩ := ownsU_src (S4.mc.own _ (hmem p hp))
          rw [Hok2.out _ (hmem p hp)] at e
          exact ⟨aa, ca, by rw [hcell p hp, e]⟩
        have hou := S4.mc.own _ (hmem q hqn)
        have h6 := Hok2.out _ (hmem q hqn)
        have cq := hcell q hqn
        have hap := rows_apart hou S4.mc.row (by decide)
        obtain ⟨g, ca, e6, _, _⟩ := ownsU_at hou (by omega)
        rw [h6] at e6
        rw [e6] at cq hou hap
        have hgb : g ≠ b := by
          rcases hap with h | h
          · simp [Value.ownBlock] at h
          · intro e; exact h (by simp [Value.ownBlock, e])
        have hxs : ∃ xs : List Int, xs.length = 6 ∧ ownsU w4 w2.heap.size (.slice (some ⟨g, 0, none⟩) 6 ca) xs := ⟨_, h6, hou⟩
        clear hou h6 e6 hap hcell hmem
        obtain ⟨xs, hx6, hou⟩ := hxs
        have hoa := ownsU_below hou ((Below.refl w4.heap.size w4).alloc (Nat.le_refl _) (.cells #[.int .u64 0] 44))
        have hgl := hou.lt g rfl
        rw [ownsU, hx6] at hoa
        have Ba := B4.alloc B4.size (.cells #[.int .u64 0] 44)
        have hsz : w2.heap.size ≤ w4.heap.size := S4.gr.size
        have hnew : ∀ p, (w4.alloc (.cells #[.int .u64 0] 44)).cell? ⟨b, p, none⟩ = w4.cell? ⟨b, p, none⟩ := fun p => ((Below.refl w4.heap.size w4).alloc (Nat.le_refl _) _).cell (p := ⟨b, p, none⟩) hbl
        clear S4 hou HOl Hok2
        go_wp2_with (at_builtin; refine wpList_append_lies _ rfl (.tmp 64) (.tmp 65) 32 rfl w2.heap.size 44 i1 (.int .u64 0) 1 8 Tryd.underlying32 hi1 hy0 hy1 hy2 rfl (by decide) _ 6 (xs.map (Value.int .u64)) rfl hoa ⟨w4.heap.size, 0, none⟩ 1 1 [.int .u64 0] rfl rfl (World.news_of_block (t := 44) (fr := (0, 0)) (heap_alloc_new w4 _)) (by simp [Value.oneCell']) (by omega) (by unfold maxLen; omega) (by omega) (by simp; omega) (w4.heap.size + 1) (by simp) ?_)
        intro g' cp' w9 ow gr _ _
        have hgr : ∀ p, w9.cell? ⟨b, p, none⟩ = w4.cell? ⟨b, p, none⟩ := fun p => (World.cell?_of_block (w := w4.alloc (.cells #[.int .u64 0] 44)) (gr.block b (by simp; omega) (by simp [Value.ownBlock]; omega))).trans (hnew p)
        have hf9 : w9.frozen? ⟨b, q * 3 + 2, none⟩ = false := by
          have e1 := gr.block b (by simp; omega) (by simp [Value.ownBlock]; omega)
          have e2 : (w4.alloc (.cells #[.int .u64 0] 44)).heap[b]? = w4.heap[b]? := Below.heap_alloc w4 _ b hbl
          have := hfz (q * 3 + 2)
          simp only [World.frozen?, e1, e2] at this ⊢
          exact this
        have c9 : w9.cell? ⟨b, q * 3 + 2, none⟩ = some (.slice (some ⟨g, 0, none⟩) 6 ca) := (hgr _).trans cq
        have B9 := Ba.grown gr (by simp; have := B4.size; omega) (fun k hk => by simp only [Value.ownBlock, Option.some.injEq] at hk; omega)
        have BF := B9.setCell (p := ⟨b, q * 3 + 2, none⟩) (by show w.heap.size ≤ b; omega) (.slice (some ⟨g', 0, none⟩) 7 cp')
        have HP : Hid (BadL w (.returned (.slice (some ⟨b, 0, none⟩) n cp)) (w9.setCell ⟨b, q * 3 + 2, none⟩ (.slice (some ⟨g', 0, none⟩) 7 cp'))) := BadL.mk hclen hqn (fun p hp => by obtain ⟨aa, ca, h⟩ := hcs6.out p hp; exact ⟨aa, ca, by rw [hgr]; exact h⟩) BF (by omega)
        clear hcs6 ow gr Ba B9 BF B4 hgr hnew hfz hoa cq
        go_wp2
        go_ret
        exact HP.out
    · refine .inl ⟨cs, hcok, by omega, fun a cap w hs hc => ?_⟩
      have hb' : (¬ x0 % 30 = 1 ∨ cs.length = 0) ∧ (¬ x0 % 30 = 2 ∨ cs.length = 0) := by omega
      clear HMy HN HY hcok
      go_enter Tryd.func11, Tryd.ntmps11
      go_wp2_with fail
      refine (HOp.out a cap w hs hc).mono ?_
      rintro _ w1 ⟨R, cR, rfl, hR, r1, B1⟩
      have HRq : Hid (∀ q, some R = some q → w.heap.size ≤ q) := fun q hq => by have : R = q := by simpa using hq
                                                                                omega
      go_wp2_with fail
      refine (HN0.out _ _ _ _ r1).mono ?_
      rintro _ w2 ⟨rfl, r2, g2⟩
      have B2 := B1.grown g2 B1.size HRq.out
      go_wp2_with fail
      refine (HD.out _ _ _ _ r2).mono ?_
      rintro _ w3 ⟨v, os, rfl, ho, S⟩
      have B3 := B2.grown S.gr B2.size HRq.out
      have HP : Hid (GoodL cs w (.returned v) w3) := GoodL.mk S.mc ho B3
      obtain ⟨av, cv, ev, _, _⟩ := S.mc.src
      have hol : os.length = cs.length := by rw [← ho, List.length_map]
      rw [hol] at ev
      subst ev
      clear HOp HN0 HN1 g2 r1 r2 B1 B2 S ho B3 HD hol hclen hbad
      generalize cs.length = n at *
      have hc1 : (x0 % 30 == 1 && decide ((0 : Int) < (n : Int))) = false := by simp; omega
      have hc2 : (x0 % 30 == 2 && decide ((0 : Int) < (n : Int))) = false := by simp; omega
      go_wp2
      all_goals
        go_ret
        exact HP.out
end Go.Proofs.YtjbbiailhpkdeaaDoor
