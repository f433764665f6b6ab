/-
  DrwD, DrwE, DrwF
-/
import Derived.Test.YtoamapdfcdefjaaGreatQ06
import Derived.Deep.Cut
namespace Go.Proofs.YtoamapdfcdefjaaGreat
open Go.RowKit Go.Deep
set_option linter.unusedVariables false

theorem row_monoD {w : World} {B B' t s n : Nat} {v : Value} {xs : List Value} (h : w.ownsRow B t s v n xs) (hb : B' ≤ B) : w.ownsRow B' t s v n xs := by
  obtain ⟨h0, h | ⟨g, cap, cur, e, hb', r⟩⟩ := h
  · exact ⟨h0, .inl h⟩
  · exact ⟨h0, .inr ⟨g, cap, cur, e, by omega, r⟩⟩

set_option maxRecDepth 100000 in
set_option maxHeartbeats 4000000 in
theorem drawRule_any (l : List Int) (F : Nat → K × Nat) (hF : KdF l F) (R cap : Nat) (ad : Option Addr) (j : Nat) (w : World) (hR : Rd w R ad cap l j) :
    Calls Tryz.prog 59 #[.pointer (some ⟨R, 0, none⟩)] w fun e w' => ∃ v, e = .returned (.agg #[v]) ∧ ownsKd w' w.heap.size v (ruleD l F j) ∧ Rd w' R ad cap l (ruleJ l F j) ∧ w.grownBy w' (some R) := by
  obtain ⟨i1, hi1, hy0, hy1, hy2⟩ := info_parts infoConD
  have HN : Hid (∀ t W, Rd W R ad cap l t → Calls Tryz.prog 13 #[.pointer (some ⟨R, 0, none⟩)] W fun e w' => e = .returned (.int .i64 (l.getD t 0)) ∧ Rd w' R ad cap l (t + 1) ∧ W.grownBy w' (some R)) := fun t W h => next_any R cap ad l t W h
  have HB : Hid (∀ t, 0 ≤ l.getD t 0 ∧ l.getD t 0 ≤ 255) := isBytes_getD hR.bys
  obtain ⟨A, hA⟩ : ∃ A : Nat → List K, ∀ i, (agR F j i).1 = A i := ⟨_, fun _ => rfl⟩
  obtain ⟨J, hJ⟩ : ∃ J : Nat → Nat, ∀ i, (agR F j i).2 = J i := ⟨_, fun _ => rfl⟩
  have HC : Hid (∀ t W, Rd W R ad cap l t → Calls Tryz.prog 73 #[.pointer (some ⟨R, 0, none⟩)] W fun e w' => e = .returned (.agg #[.int .i64 (F t).1.kind, .int .u64 ((F t).1.a : Int), .int .u64 ((F t).1.b : Int)]) ∧ Rd w' R ad cap l (F t).2 ∧ W.grownBy w' (some R)) := fun t W h => (hF t).2 R cap ad W h
  have HS0 : Hid (∀ i, 2 < i → A (i + 1) = A i ++ [zeroK] ∧ J (i + 1) = J i) := fun i h1 => by
    rw [← hA (i + 1), ← hJ (i + 1), ← hA i, ← hJ i, agR_succ, if_pos h1]; exact ⟨rfl, rfl⟩
  have HS1 : Hid (∀ i, ¬ 2 < i → A (i + 1) = A i ++ [(F (J i)).1] ∧ J (i + 1) = (F (J i)).2) := fun i h1 => by
    rw [← hA (i + 1), ← hJ (i + 1), ← hA i, ← hJ i, agR_succ, if_neg h1]; exact ⟨rfl, rfl⟩
  have HL : Hid (∀ i, (A i).length = i) := fun i => by rw [← hA i]; exact agR_len F j i
  have HJ0 : Hid (J 0 = j) := (hJ 0).symm
  have HA0 : Hid (A 0 = []) := (hA 0).symm
  have hrd : ruleD l F j = if l.getD (J 6) 0 % 6 = 1 then (A 6).set 5 (F (J 6 + 1)).1 else A 6 := by unfold ruleD; rw [hA 6, hJ 6]
  have hrj : ruleJ l F j = if l.getD (J 6) 0 % 6 = 1 then (F (J 6 + 1)).2 else J 6 + 1 := by unfold ruleJ; rw [hJ 6]
  obtain ⟨RD, hRD⟩ : ∃ RD, ruleD l F j = RD := ⟨_, rfl⟩
  obtain ⟨RJ, hRJ⟩ : ∃ RJ, ruleJ l F j = RJ := ⟨_, rfl⟩
  rw [hRD] at hrd ⊢
  rw [hRJ] at hrj ⊢
  have HRD : Hid (RD = if l.getD (J 6) 0 % 6 = 1 then (A 6).set 5 (F (J 6 + 1)).1 else A 6) := hrd
  have HRJ : Hid (RJ = if l.getD (J 6) 0 % 6 = 1 then (F (J 6 + 1)).2 else J 6 + 1) := hrj
  have hRw := hR.lt
  have hb1 : Below w.heap.size w (w.alloc (.cells #[.slice none 0 0] 44)) := (Below.refl _ _).alloc (Nat.le_refl _) _
  have e1 : (w.alloc (.cells #[.slice none 0 0] 44)).heap.size = w.heap.size + 1 := by simp
  have D0 : RlS w ((w.alloc (.cells #[.slice none 0 0] 44)).alloc (.cells #[.slice none 0 0] 44)) R ad cap l j (w.heap.size + 1) (.slice none 0 0) [] := by
    refine ⟨(hR.alloc _).alloc _, rb_alloc (rb_alloc (World.grownBy.refl _ _) _) _, hRw, by omega, by simp, ?_, ?_, ?_, ?_, World.ownsRow_nil _ _ _ _⟩
    · rw [← e1]; simp
    · rw [← e1]; simp
    · rw [World.cell?_alloc_old _ _ _ (by simp)]; simp
    · simp
  rw [← HJ0.out, ← HA0.out] at D0
  clear hA hJ hrd hrj hRD hRJ hb1 e1
  go_enter Tryz.func59, Tryz.ntmps59
  go_wp2_with fail
  generalize (w.alloc (.cells #[.slice none 0 0] 44)).alloc (.cells #[.slice none 0 0] 44) = W0 at *
  generalize hGg : w.heap.size + 1 = G at *
  go_loopw [4] (fun i W => ∃ (n : Nat) (v : Value), i = .int .i64 (n : Int) ∧ n ≤ 6 ∧ RlS w W R ad cap l (J n) G v (A n)) (fun i _ => 6 - (intOf i).toNat)
  case atStart => exact ⟨0, _, rfl, by omega, D0⟩
  case round =>
    obtain ⟨n, v, rfl, hn6, D⟩ := hrel
    clear D0
    obtain ⟨av, cv, ev⟩ : ∃ a c, v = .slice a n c := by
      have hln := HL.out n
      rcases D.own.2 with ⟨h1, h2⟩ | ⟨g, cap', cur, h1, _⟩
      · rw [hln] at h2; exact ⟨none, 0, by rw [h1, h2]⟩
      · rw [hln] at h1; exact ⟨_, _, h1⟩
    subst ev
    by_cases hlt : n < 6
    · have hbm : n + 1 ≤ maxLen := by unfold maxLen; omega
      have hbd : (n + 1) * 24 ≤ 140737488355328 := by omega
      by_cases hz : 2 < n
      · obtain ⟨eA, eJ⟩ := HS0.out n hz
        have HeA : Hid _ := eA
        have HeJ : Hid _ := eJ
        have hz1 : (2 : Int) < (n : Int) := by omega
        clear eA eJ hz
        have DA := D.below ((Below.refl wr.heap.size wr).alloc (Nat.le_refl _) (.cells #[.int .i64 0, .int .u64 0, .int .u64 0] 41))
        have ho := DA.own
        rw [ownsKd, HL.out n] at ho
        have hG := DA.hG
        have c0 := D.c
        have f0 := D.f
        clear HC HS0 HS1 HN
        go_wp2_with (at_builtin; refine wpList_append_lies _ rfl (.tmp 12) (.tmp 14) 42 rfl (G + 1) 41 i1 _ 3 24 Tryz.underlying42 hi1 hy0 hy1 hy2 rfl (by decide) _ n (cKsd (A n)) rfl ho ⟨wr.heap.size, 0, none⟩ 1 1 [.int .i64 0, .int .u64 0, .int .u64 0] rfl rfl (World.news_of_block (t := 41) (fr := (0, 0)) (heap_alloc_new wr _)) (by simp [Value.oneCell']) (by omega) hbm hbd (by omega) (wr.heap.size + 1) (by simp) ?_)
        intro g' cp' w9 ow gr _ _
        have o9 : ownsKd w9 (G + 1) (.slice (some ⟨g', 0, none⟩) (n + 1) cp') (A (n + 1)) := by
          rw [HeA.out, ownsKd, List.length_append, HL.out n]
          simpa [cKsd, cKd, zeroK] using ow
        have D9 := DA.push gr o9
        rw [← HeJ.out] at D9
        obtain ⟨b1, b2⟩ := cell_grD (o := 0) gr DA.hG (fun e => by have := (DA.own.lt G e.symm).1; omega)
        have b3 := b1.trans DA.c
        have b4 := b2.trans DA.f
        clear ow gr o9 DA D ho HeA HeJ c0 f0 b1 b2
        go_wp2
        go_roundw
        case rel => exact ⟨n + 1, _, by go_num, by omega, D9⟩
        case measure => simp [intOf]; omega
      · obtain ⟨eA, eJ⟩ := HS1.out n hz
        have HeA : Hid _ := eA
        have HeJ : Hid _ := eJ
        have hz1 : ¬ (2 : Int) < (n : Int) := by omega
        clear eA eJ hz
        have HC2 : Hid (∀ W, Rd W R ad cap l (J n) → Calls Tryz.prog 73 #[.pointer (some ⟨R, 0, none⟩)] W fun e w' => e = .returned (.agg #[.int .i64 (F (J n)).1.kind, .int .u64 ((F (J n)).1.a : Int), .int .u64 ((F (J n)).1.b : Int)]) ∧ Rd w' R ad cap l (F (J n)).2 ∧ W.grownBy w' (some R)) := fun W h => HC.out (J n) W h
        have hln := HL.out n
        clear HC HS0 HS1 HN
        generalize F (J n) = cj at *
        obtain ⟨⟨ck, ca, cb⟩, Jx⟩ := cj
        simp only at HC2
        have Dd := D.below (Below.refl _ _).drew
        have c0 := Dd.c
        have f0 := Dd.f
        go_wp2_with fail
        go_region_law (first
          | (refine step_append_lies _ (by rfl) _ _ _ (by rfl) (G + 1) 41 i1 _ 3 24 Tryz.underlying42 hi1 hy0 hy1 hy2 rfl (by decide) _ n (cKsd (A n)) (by rfl) (by have h := D8.own; rw [ownsKd, hln] at h; exact h) ⟨w7.heap.size, 0, none⟩ 1 1 [.int .i64 ck, .int .u64 (ca : Int), .int .u64 (cb : Int)] (by rfl) (by rfl) (World.news_of_block (t := 41) (fr := (0, 0)) (heap_alloc_new w7 _)) (by simp [Value.oneCell']) (by omega) hbm hbd (by have := D8.hG; omega) (w7.heap.size + 1) (by simp) ?_; intro g' cp' w9 ow gr _ _; obtain ⟨b1, b2⟩ := cell_grD (o := 0) gr D8.hG (fun e => by have := (D8.own.lt G e.symm).1; omega); have b3 := b1.trans D8.c; have b4 := b2.trans D8.f; clear b1 b2)
          | (go_simp; go_at_call 73; refine (HC2.out _ Dd.rd).mono ?_; rintro _ w7 ⟨rfl, hR7, hg7⟩; have D7 := Dd.draw hR7 hg7; have D8 := D7.below ((Below.refl w7.heap.size w7).alloc (Nat.le_refl _) (.cells #[.int .i64 ck, .int .u64 (ca : Int), .int .u64 (cb : Int)] 41)); have c7 := D7.c; have c8 := D8.c; go_wp2_with fail))
        all_goals
          have o9 : ownsKd w9 (G + 1) (.slice (some ⟨g', 0, none⟩) (n + 1) cp') (A (n + 1)) := by
            rw [HeA.out, ownsKd, List.length_append, hln]
            simpa [cKsd, cKd] using ow
          have D9 := D8.push gr o9
          have eJ := HeJ.out
          try simp only at eJ
          rw [← eJ] at D9
          clear ow gr o9 D8 D7 D Dd HeA HeJ c0 f0 b3 b4 c7 c8 hR7 hg7 HC2 eJ
          go_wp2
          go_roundw
          case rel => exact ⟨n + 1, _, by go_num, by omega, D9⟩
          case measure => simp [intOf]; omega
    · obtain rfl : n = 6 := by omega
      obtain ⟨g, cg, eg, hcg, hgg⟩ : ∃ g c, Value.slice av 6 cv = .slice (some ⟨g, 0, none⟩) 6 c ∧ 6 ≤ c ∧ G + 1 ≤ g := by
        have hln := HL.out 6
        rcases D.own.2 with ⟨h1, h2⟩ | ⟨g, cap', cur, h1, hb', _, hn', _⟩
        · rw [hln] at h2; omega
        · rw [hln] at h1 hn'; exact ⟨g, cap', h1, hn', hb'⟩
      have eg1 : av = some ⟨g, 0, none⟩ := by simp only [Value.slice.injEq] at eg; exact eg.1
      have eg2 : cv = cg := by simp only [Value.slice.injEq] at eg; exact eg.2.2
      subst eg1 eg2
      clear eg
      have hy := HB.out (J 6)
      have HN6 : Hid (∀ W, Rd W R ad cap l (J 6) → Calls Tryz.prog 13 #[.pointer (some ⟨R, 0, none⟩)] W fun e w' => e = .returned (.int .i64 (l.getD (J 6) 0)) ∧ Rd w' R ad cap l (J 6 + 1) ∧ W.grownBy w' (some R)) := fun W h => HN.out (J 6) W h
      have HC6 : Hid (∀ W, Rd W R ad cap l (J 6 + 1) → Calls Tryz.prog 73 #[.pointer (some ⟨R, 0, none⟩)] W fun e w' => e = .returned (.agg #[.int .i64 (F (J 6 + 1)).1.kind, .int .u64 ((F (J 6 + 1)).1.a : Int), .int .u64 ((F (J 6 + 1)).1.b : Int)]) ∧ Rd w' R ad cap l (F (J 6 + 1)).2 ∧ W.grownBy w' (some R)) := fun W h => HC.out (J 6 + 1) W h
      clear HS0 HS1 HN HC HB
      generalize l.getD (J 6) 0 = y at *
      obtain ⟨hya, hyb⟩ := hy
      go_wp2_with fail
      refine (HN6.out _ D.rd).mono ?_
      rintro _ w2 ⟨rfl, r2, g2⟩
      have D2 := D.draw r2 g2
      have hgl2 := (D2.own.lt g rfl).2
      clear D r2 g2 HN6
      by_cases hy6 : y % 6 = 1
      case' pos =>
        have hRDe : RD = (A 6).set 5 (F (J 6 + 1)).1 := by rw [HRD.out, if_pos hy6]
        have hRJe : RJ = (F (J 6 + 1)).2 := by rw [HRJ.out, if_pos hy6]
        clear HRD HRJ
        have HRDe : Hid _ := hRDe
        have HRJe : Hid _ := hRJe
        clear hRDe hRJe
        generalize F (J 6 + 1) = cj at *
        obtain ⟨⟨ck, ca, cb⟩, Jx⟩ := cj
        simp only at HC6
        have Dd := D2.below (Below.refl _ _).drew
        have c0 := Dd.c
        have hcells : ∀ {W : World} {jj : Nat}, RlS w W R ad cap l jj G (.slice (some ⟨g, 0, none⟩) 6 cv) (A 6) → (∀ o, o < 18 → (W.cell? ⟨g, o, none⟩).isSome = true ∧ W.frozen? ⟨g, o, none⟩ = false) := fun {W jj} h o ho => by
          obtain ⟨_, h1 | ⟨g', cap', cur, e, _, hg', hn', _, hs', _⟩⟩ := h.own
          · cases h1.1
          · simp only [Value.slice.injEq, Option.some.injEq, Addr.mk.injEq] at e
            rw [← e.1.1] at hg'
            refine ⟨?_, by simp [World.frozen?, hg']⟩
            have hc : cap' = cv := e.2.2.symm
            simp [World.cell?, hg']
            omega
        have Hcells : Hid _ := @hcells
        clear hcells
        go_wp2_with fail
        go_region_law (first
          | (go_simp; go_at_call 73; refine (HC6.out _ Dd.rd).mono ?_; rintro _ w7 ⟨rfl, hR7, hg7⟩; have D7 := Dd.draw hR7 hg7; have c7 := D7.c; obtain ⟨i15, f15⟩ := Hcells.out D7 15 (by omega); obtain ⟨i16, f16⟩ := Hcells.out D7 16 (by omega); obtain ⟨i17, f17⟩ := Hcells.out D7 17 (by omega); obtain ⟨u15, v15⟩ := Option.isSome_iff_exists.1 i15; obtain ⟨u16, v16⟩ := Option.isSome_iff_exists.1 i16; obtain ⟨u17, v17⟩ := Option.isSome_iff_exists.1 i17; clear i15 i16 i17; go_wp2_with fail))
        all_goals
          have D9 : RlS w (((w7.setCell ⟨g, 15, none⟩ (.int .i64 ck)).setCell ⟨g, 16, none⟩ (.int .u64 (ca : Int))).setCell ⟨g, 17, none⟩ (.int .u64 (cb : Int))) R ad cap l Jx G (.slice (some ⟨g, 0, none⟩) 6 cv) ((A 6).set 5 ⟨ck, ca, cb⟩) := RlS.put (i := 5) D7 ⟨ck, ca, cb⟩
          clear c0 c7 f15 f16 f17 v15 v16 v17 D7 Dd D2 Hcells HC6 hR7 hg7
          generalize ((w7.setCell ⟨g, 15, none⟩ (.int .i64 ck)).setCell ⟨g, 16, none⟩ (.int .u64 (ca : Int))).setCell ⟨g, 17, none⟩ (.int .u64 (cb : Int)) = w9 at *
          have c0 := D9.c
          have f0 := D9.f
          have z0 := D9.c0
          have zf := D9.f0
          have hlt2 := D9.lt
          have hb2 := D9.hb
          have oF : ownsKd (w9.setCell ⟨w.heap.size, 0, none⟩ (.slice (some ⟨g, 0, none⟩) 6 cv)) w.heap.size (.slice (some ⟨g, 0, none⟩) 6 cv) RD := by
            rw [HRDe.out]
            exact row_monoD (ownsRow_setCell_below D9.own (by show w.heap.size < G + 1; omega) _) (by omega)
          have rF : Rd (w9.setCell ⟨w.heap.size, 0, none⟩ (.slice (some ⟨g, 0, none⟩) 6 cv)) R ad cap l RJ := by
            rw [HRJe.out]
            exact D9.rd.keep (fun k hk => Below.heap_setCell w9 ⟨w.heap.size, 0, none⟩ _ k (fun e => by simp at e; omega))
          have gF : w.grownBy (w9.setCell ⟨w.heap.size, 0, none⟩ (.slice (some ⟨g, 0, none⟩) 6 cv)) (some R) := rb_own D9.gr (rb_set (World.grownBy.refl _ (some w.heap.size)) 0 _) (fun k hk => by simp at hk; omega)
          clear D9
          go_wp2
          refine bodyPost_ret (v := .agg #[.slice (some ⟨g, 0, none⟩) 6 cv]) (by simp [results, Tryz.results59, go_sem, z0]) rfl ?_
          exact ⟨_, rfl, oF, rF, gF⟩
      case' neg =>
        have hRDe : RD = A 6 := by rw [HRD.out, if_neg hy6]
        have hRJe : RJ = J 6 + 1 := by rw [HRJ.out, if_neg hy6]
        subst hRDe hRJe
        clear HRD HRJ HC6
        have c0 := D2.c
        have f0 := D2.f
        have z0 := D2.c0
        have zf := D2.f0
        have hlt2 := D2.lt
        have hb2 := D2.hb
        have oF : ownsKd (w2.setCell ⟨w.heap.size, 0, none⟩ (.slice (some ⟨g, 0, none⟩) 6 cv)) w.heap.size (.slice (some ⟨g, 0, none⟩) 6 cv) (A 6) := row_monoD (ownsRow_setCell_below D2.own (by show w.heap.size < G + 1; omega) _) (by omega)
        have rF : Rd (w2.setCell ⟨w.heap.size, 0, none⟩ (.slice (some ⟨g, 0, none⟩) 6 cv)) R ad cap l (J 6 + 1) := D2.rd.keep (fun k hk => Below.heap_setCell w2 ⟨w.heap.size, 0, none⟩ _ k (fun e => by simp at e; omega))
        have gF : w.grownBy (w2.setCell ⟨w.heap.size, 0, none⟩ (.slice (some ⟨g, 0, none⟩) 6 cv)) (some R) := rb_own D2.gr (rb_set (World.grownBy.refl _ (some w.heap.size)) 0 _) (fun k hk => by simp at hk; omega)
        clear D2
        go_wp2
        refine bodyPost_ret (v := .agg #[.slice (some ⟨g, 0, none⟩) 6 cv]) (by simp [results, Tryz.results59, go_sem, z0]) rfl ?_
        exact ⟨_, rfl, oF, rF, gF⟩
end Go.Proofs.YtoamapdfcdefjaaGreat
namespace Go.Proofs.YtoamapdfcdefjaaGreat
open Go.RowKit Go.Deep
set_option linter.unusedVariables false

/-- conditions lie at an address -/
def KsD (W : World) (b : Nat) (ks : List K) : Prop := ∀ j u, (cKsd ks)[j]? = some u → W.cell? ((⟨b, 0, none⟩ : Addr).add j) = some u
theorem ownsKd_ksd {W : World} {B b n cp : Nat} {ks : List K} (h : ownsKd W B (.slice (some ⟨b, 0, none⟩) n cp) ks) : KsD W b ks := fun j u hu => h.cells rfl j u hu
theorem KsD.below {W W1 : World} {b : Nat} {ks : List K} (h : KsD W b ks) (hlt : b < W.heap.size) (hb : Below W.heap.size W W1) : KsD W1 b ks := fun j u hu => by
  have := h j u hu
  rw [add_at] at this ⊢
  exact (hb.cell (p := ⟨b, _, none⟩) hlt).trans this
theorem cKsd_one (ks : List K) : ∀ u ∈ cKsd ks, u.oneCell' = true := by
  intro u hu
  simp only [cKsd, List.mem_flatMap] at hu
  obtain ⟨c, _, hc⟩ := hu
  simp only [cKd, List.mem_cons, List.not_mem_nil, or_false] at hc
  rcases hc with rfl | rfl | rfl <;> rfl

theorem box_getD (u : World) (x : Value) (t A : Nat) (h : A = u.heap.size) : (u.alloc (.cells #[x] t)).cell? ⟨A, 0, none⟩ = some x ∧ (u.alloc (.cells #[x] t)).frozen? ⟨A, 0, none⟩ = false := by subst h; constructor <;> simp

set_option maxRecDepth 100000 in
set_option maxHeartbeats 2000000 in
theorem copyRule_any (b : Nat) (ca : Nat) (ks : List K) (h6 : ks.length = 6) (w : World) (hs : KsD w b ks) (hb : b < w.heap.size) :
    Calls Tryz.prog 74 #[.agg #[.slice (some ⟨b, 0, none⟩) 6 ca]] w fun e w' => ∃ v, e = .returned (.agg #[v]) ∧ ownsKd w' w.heap.size v ks ∧ Below w.heap.size w w' := by
  obtain ⟨i1, hi1, hy0, hy1, hy2⟩ := info_parts infoConD
  obtain ⟨W3, hW3⟩ : ∃ W3, W3 = ((w.alloc (.cells #[.slice (some ⟨b, 0, none⟩) 6 ca] 44)).alloc (.cells #[.slice none 0 0] 44)).alloc (.cells #[.slice none 0 0] 44) := ⟨_, rfl⟩
  have B3 : Below w.heap.size w W3 := by
    rw [hW3]
    exact (((Below.refl _ _).alloc (Nat.le_refl _) _).alloc (by simp) _).alloc (by simp; omega) _
  have hz : W3.heap.size = w.heap.size + 1 + 1 + 1 := by rw [hW3]; simp
  have e1 : (w.alloc (.cells #[.slice (some ⟨b, 0, none⟩) 6 ca] 44)).heap.size = w.heap.size + 1 := by simp
  have e2 : ((w.alloc (.cells #[.slice (some ⟨b, 0, none⟩) 6 ca] 44)).alloc (.cells #[.slice none 0 0] 44)).heap.size = w.heap.size + 1 + 1 := by simp
  have c1 : W3.cell? ⟨w.heap.size, 0, none⟩ = some (.slice (some ⟨b, 0, none⟩) 6 ca) := by
    rw [hW3, World.cell?_alloc_old _ _ _ (by simp; omega), World.cell?_alloc_old _ _ _ (by simp)]; simp
  have c2 : W3.cell? ⟨w.heap.size + 1, 0, none⟩ = some (.slice none 0 0) := by
    rw [hW3, World.cell?_alloc_old _ _ _ (by simp), ← e1]; simp
  have c3 : W3.cell? ⟨w.heap.size + 1 + 1, 0, none⟩ = some (.slice none 0 0) := by rw [hW3]; exact (box_getD _ _ _ _ e2.symm).1
  have f2 : W3.frozen? ⟨w.heap.size + 1, 0, none⟩ = false := by rw [hW3]; exact (((Below.refl _ _).alloc (Nat.le_refl _) _).frozen (p := ⟨w.heap.size + 1, 0, none⟩) (by simp)).trans (box_getD _ _ _ _ e1.symm).2
  have f3 : W3.frozen? ⟨w.heap.size + 1 + 1, 0, none⟩ = false := by rw [hW3]; exact (box_getD _ _ _ _ e2.symm).2
  have hs3 := hs.below hb B3
  have Hs3 : Hid _ := hs3
  have HW3 : Hid _ := hW3
  have ho : World.ownsRow W3 (w.heap.size + 1 + 1 + 1) 41 3 (.slice none 0 0) 0 [] := World.ownsRow_nil _ _ _ _
  have hcl : (cKsd ks).length = 6 * 3 := by rw [cKsd_len, h6]
  have Hcl : Hid _ := hcl
  clear hs3 hW3 e1 e2 hs hcl
  go_enter Tryz.func74, Tryz.ntmps74
  go_upto_region 2 with fail
  rw [← HW3.out]
  clear HW3
  go_wp2_with (at_builtin; refine wpList_append_lies _ rfl (.tmp 5) (.tmp 7) 42 rfl (w.heap.size + 1 + 1 + 1) 41 i1 _ 3 24 Tryz.underlying42 hi1 hy0 hy1 hy2 rfl (by decide) _ 0 [] rfl ho ⟨b, 0, none⟩ 6 ca (cKsd ks) rfl Hcl.out Hs3.out (cKsd_one ks) (by omega) (by unfold maxLen; omega) (by omega) (by omega) W3.heap.size rfl ?_)
  intro g' cp' w9 ow gr _ _
  have o9 : ownsKd w9 (w.heap.size + 1 + 1 + 1) (.slice (some ⟨g', 0, none⟩) 6 cp') ks := by rw [ownsKd, h6]; simpa using ow
  obtain ⟨a1, a2⟩ := cell_grD (g := w.heap.size + 1) (o := 0) gr (by omega) (by simp [Value.ownBlock])
  obtain ⟨a3, a4⟩ := cell_grD (g := w.heap.size + 1 + 1) (o := 0) gr (by omega) (by simp [Value.ownBlock])
  have d2 := a1.trans c2
  have d3 := a3.trans c3
  have k2 := a2.trans f2
  have k3 := a4.trans f3
  have B9 : Below w.heap.size w w9 := B3.grown gr (by omega) (fun q hq => by simp [Value.ownBlock] at hq)
  have oF : ownsKd ((w9.setCell ⟨w.heap.size + 1 + 1, 0, none⟩ (.slice (some ⟨g', 0, none⟩) 6 cp')).setCell ⟨w.heap.size + 1, 0, none⟩ (.slice (some ⟨g', 0, none⟩) 6 cp')) w.heap.size (.slice (some ⟨g', 0, none⟩) 6 cp') ks :=
    row_monoD (ownsRow_setCell_below (ownsRow_setCell_below o9 (by show w.heap.size + 1 + 1 < w.heap.size + 1 + 1 + 1; omega) _) (by show w.heap.size + 1 < w.heap.size + 1 + 1 + 1; omega) _) (by omega)
  have BF := (B9.setCell (p := ⟨w.heap.size + 1 + 1, 0, none⟩) (by show w.heap.size ≤ w.heap.size + 1 + 1; omega) (.slice (some ⟨g', 0, none⟩) 6 cp')).setCell (p := ⟨w.heap.size + 1, 0, none⟩) (by show w.heap.size ≤ w.heap.size + 1; omega) (.slice (some ⟨g', 0, none⟩) 6 cp')
  clear ow gr o9 B9 B3 a1 a2 a3 a4 c1 c2 c3 f2 f3 Hs3 Hcl ho
  go_wp2
  refine bodyPost_ret (v := .agg #[.slice (some ⟨g', 0, none⟩) 6 cp']) (by simp [results, Tryz.results74, go_sem, d2]) rfl ?_
  exact ⟨_, rfl, oF, BF⟩
end Go.Proofs.YtoamapdfcdefjaaGreat
namespace Go.Proofs.YtoamapdfcdefjaaGreat
open Go.RowKit Go.Deep
set_option linter.unusedVariables false

/-- the condition that takes the place of c, and where the reader stands behind it -/
def nearC (l : List Int) (F : Nat → K × Nat) (c : K) (k : Int) (t : Nat) : K × Nat :=
  if k < 4 ∧ c.kind = 1 ∧ c.a ≠ 0 then (if bits .and .u64 (c.a : Int) (2 ^ (l.getD t 0 % 4).toNat) ≠ 0 then ⟨c.kind, c.a, (bits .xor .u64 (c.b : Int) (2 ^ (l.getD t 0 % 4).toNat)).toNat⟩ else c, t + 1)
  else if k < 6 ∧ c.kind = 2 ∧ c.b < 18446744073709551595 then (⟨2, c.b + (l.getD t 0 % 4).toNat, c.b + (l.getD t 0 % 4).toNat + (l.getD (t + 1) 0 % 5).toNat⟩, t + 2)
  else F t
def nearR (l : List Int) (F : Nat → K × Nat) (ks : List K) (j : Nat) : List K :=
  if l.getD (j + 1) 0 % 8 = 7 then (ks.set (l.getD j 0 % 3).toNat (nearC l F (ks.getD (l.getD j 0 % 3).toNat zeroK) (l.getD (j + 1) 0 % 8) (j + 2)).1).set (((l.getD j 0 % 3).toNat + 1) % 3) zeroK
  else ks.set (l.getD j 0 % 3).toNat (nearC l F (ks.getD (l.getD j 0 % 3).toNat zeroK) (l.getD (j + 1) 0 % 8) (j + 2)).1
def nearRJ (l : List Int) (F : Nat → K × Nat) (ks : List K) (j : Nat) : Nat := (nearC l F (ks.getD (l.getD j 0 % 3).toNat zeroK) (l.getD (j + 1) 0 % 8) (j + 2)).2

theorem nearC_ok {l : List Int} (hl : isBytes l) {F : Nat → K × Nat} (hF : KdF l F) {c : K} (hc : OkK c) (k : Int) (t : Nat) : OkK (nearC l F c k t).1 := by
  have h1 := isBytes_getD hl t
  have h2 := isBytes_getD hl (t + 1)
  unfold nearC
  split
  · split
    · have := bits_hi_u64 .xor (c.b : Int) (2 ^ (l.getD t 0 % 4).toNat)
      exact ⟨hc.1, hc.2.1, by show (bits .xor .u64 _ _).toNat ≤ _; omega⟩
    · exact hc
  split
  · exact ⟨by show (0 : Int) ≤ 2 ∧ (2 : Int) ≤ 2; omega, by show c.b + _ ≤ _; omega, by show c.b + _ + _ ≤ _; omega⟩
  · exact (hF t).1
theorem nearR_ok {l : List Int} (hl : isBytes l) {F : Nat → K × Nat} (hF : KdF l F) {ks : List K} (hk : ∀ c ∈ ks, OkK c) (h6 : ks.length = 6) (j : Nat) : (∀ c ∈ nearR l F ks j, OkK c) ∧ (nearR l F ks j).length = 6 := by
  have h1 := isBytes_getD hl j
  have hm : OkK (ks.getD (l.getD j 0 % 3).toNat zeroK) := by
    have : (l.getD j 0 % 3).toNat < ks.length := by omega
    rw [List.getD_eq_getElem?_getD, List.getElem?_eq_getElem this]
    exact hk _ (List.getElem_mem this)
  have hn := nearC_ok hl hF hm (l.getD (j + 1) 0 % 8) (j + 2)
  have hz : OkK zeroK := ⟨by decide, by decide, by decide⟩
  have hset : ∀ {xs : List K} {i : Nat} {c : K}, (∀ c ∈ xs, OkK c) → OkK c → ∀ d ∈ xs.set i c, OkK d := fun h hc d hd => by
    rcases List.mem_or_eq_of_mem_set hd with h2 | rfl
    · exact h d h2
    · exact hc
  unfold nearR
  split
  · exact ⟨hset (hset hk hn) hz, by rw [List.length_set, List.length_set]; exact h6⟩
  · exact ⟨hset hk hn, by rw [List.length_set]; exact h6⟩

/-- the copy lies in the block g, its box in G; the condition that is turned in the box H -/
structure NrS (w W : World) (R : Nat) (ad : Option Addr) (cap : Nat) (l : List Int) (j G g cp H : Nat) (c : K) (ks : List K) : Prop where
  rd : Rd W R ad cap l j
  gr : w.grownBy W (some R)
  lt : R < w.heap.size
  hG : w.heap.size + 1 < G
  hg : w.heap.size + 1 < g
  hH : w.heap.size + 1 < H
  n1 : g ≠ G
  n2 : H ≠ G
  n3 : H ≠ g
  lG : G < W.heap.size
  cG : W.cell? ⟨G, 0, none⟩ = some (.slice (some ⟨g, 0, none⟩) 6 cp)
  c0 : W.cell? ⟨w.heap.size + 1, 0, none⟩ = some (.slice none 0 0)
  f0 : W.frozen? ⟨w.heap.size + 1, 0, none⟩ = false
  bx : BoxK W H (.int .i64 c.kind) (.int .u64 (c.a : Int)) (.int .u64 (c.b : Int))
  own : ownsKd W (w.heap.size + 2) (.slice (some ⟨g, 0, none⟩) 6 cp) ks
  len : ks.length = 6
section
variable {w W W1 : World} {R cap j j1 G g cp H : Nat} {ad : Option Addr} {l : List Int} {c : K} {ks ks1 : List K}
theorem NrS.grow {row : Option Nat} (h : NrS w W R ad cap l j G g cp H c ks) (hr : Rd W1 R ad cap l j1) (hg : W.grownBy W1 row) (hgr : w.grownBy W1 (some R)) (h1 : some G ≠ row) (h2 : some (w.heap.size + 1) ≠ row) (h3 : some H ≠ row) (ho : ownsKd W1 (w.heap.size + 2) (.slice (some ⟨g, 0, none⟩) 6 cp) ks1) (hl : ks1.length = 6) : NrS w W1 R ad cap l j1 G g cp H c ks1 := by
  have hw : w.heap.size + 1 < W.heap.size := Nat.lt_trans h.hG h.lG
  obtain ⟨e1, _⟩ := cell_grD (o := 0) hg h.lG h1
  obtain ⟨e3, e4⟩ := cell_grD (o := 0) hg hw h2
  exact ⟨hr, hgr, h.lt, h.hG, h.hg, h.hH, h.n1, h.n2, h.n3, Nat.lt_of_lt_of_le h.lG hg.size, e1.trans h.cG, e3.trans h.c0, e4.trans h.f0, h.bx.grown hg h3, ho, hl⟩
theorem NrS.draw (h : NrS w W R ad cap l j G g cp H c ks) (hr : Rd W1 R ad cap l j1) (hg : W.grownBy W1 (some R)) : NrS w W1 R ad cap l j1 G g cp H c ks := by
  have h1 := h.lt
  have h2 := h.hG
  have h3 := h.hH
  have h4 := h.hg
  exact h.grow hr hg (rb_trans h.gr hg) (by simp; omega) (by simp; omega) (by simp; omega) (World.ownsRow.kept h.own hg (.inr (by simp [Value.ownBlock]; omega))) h.len
theorem NrS.put {i : Nat} (h : NrS w W R ad cap l j G g cp H c ks) (d : K) : NrS w (((W.setCell ⟨g, i * 3, none⟩ (.int .i64 d.kind)).setCell ⟨g, i * 3 + 1, none⟩ (.int .u64 (d.a : Int))).setCell ⟨g, i * 3 + 2, none⟩ (.int .u64 (d.b : Int))) R ad cap l j G g cp H c (ks.set i d) := by
  have h1 := h.lt
  have h2 := h.hG
  have h3 := h.n1
  have h4 := h.n3
  have h5 := h.hg
  have hset : W.grownBy (((W.setCell ⟨g, i * 3, none⟩ (.int .i64 d.kind)).setCell ⟨g, i * 3 + 1, none⟩ (.int .u64 (d.a : Int))).setCell ⟨g, i * 3 + 2, none⟩ (.int .u64 (d.b : Int))) (some g) := rb_set (rb_set (rb_set (World.grownBy.refl _ _) _ _) _ _) _ _
  exact h.grow (h.rd.grown hset (by omega : R < w.heap.size + 1) (fun k hk => by simp at hk; omega)) hset (rb_own h.gr hset (fun k hk => by simp at hk; omega)) (fun e => h3 (by simpa using e.symm)) (by simp; omega) (fun e => h4 (by simpa using e)) (ownsKd_put d h.own) (by rw [List.length_set]; exact h.len)
/-- the box of the condition is laid anew -/
theorem NrS.box (h : NrS w W R ad cap l j G g cp H c ks) (hset : W.grownBy W1 (some H)) {d : K} (hb : BoxK W1 H (.int .i64 d.kind) (.int .u64 (d.a : Int)) (.int .u64 (d.b : Int))) : NrS w W1 R ad cap l j G g cp H d ks := by
  have h1 := h.lt
  have h2 := h.hH
  have h3 := h.n2
  have h4 := h.n3
  have hw : w.heap.size + 1 < W.heap.size := Nat.lt_trans h.hG h.lG
  obtain ⟨e1, _⟩ := cell_grD (o := 0) hset h.lG (fun e => h3 (by simpa using e.symm))
  obtain ⟨e3, e4⟩ := cell_grD (o := 0) hset hw (by simp; omega : some (w.heap.size + 1) ≠ some H)
  exact ⟨h.rd.grown hset (by omega : R < w.heap.size + 1) (fun k hk => by simp at hk; omega), rb_own h.gr hset (fun k hk => by simp at hk; omega), h1, h.hG, h.hg, h2, h.n1, h3, h4, Nat.lt_of_lt_of_le h.lG hset.size, e1.trans h.cG, e3.trans h.c0, e4.trans h.f0, hb, World.ownsRow.kept h.own hset (.inr (by simp [Value.ownBlock]; omega)), h.len⟩
theorem NrS.cells (h : NrS w W R ad cap l j G g cp H c ks) {i : Nat} (hi : i < 6) : W.cell? ⟨g, i * 3, none⟩ = some (.int .i64 (ks.getD i zeroK).kind) ∧ W.cell? ⟨g, i * 3 + 1, none⟩ = some (.int .u64 ((ks.getD i zeroK).a : Int)) ∧ W.cell? ⟨g, i * 3 + 2, none⟩ = some (.int .u64 ((ks.getD i zeroK).b : Int)) ∧ (∀ o, W.frozen? ⟨g, o, none⟩ = false) := by
  have hget : ∀ (ks : List K) (i : Nat), i < ks.length → (cKsd ks)[i * 3]? = some (.int .i64 (ks.getD i zeroK).kind) ∧ (cKsd ks)[i * 3 + 1]? = some (.int .u64 ((ks.getD i zeroK).a : Int)) ∧ (cKsd ks)[i * 3 + 2]? = some (.int .u64 ((ks.getD i zeroK).b : Int)) := by
    intro ks
    induction ks with
    | nil => intro i hi; simp at hi
    | cons p ks ih =>
      intro i hi
      have e : cKsd (p :: ks) = cKd p ++ cKsd ks := by simp [cKsd]
      match i with
      | 0 => simp [cKsd, cKd]
      | i + 1 =>
        have := ih i (by simpa using hi)
        rw [e, show (i + 1) * 3 = i * 3 + 1 + 1 + 1 by omega]
        simpa [cKd] using this
  obtain ⟨g1, g2, g3⟩ := hget ks i (by rw [h.len]; exact hi)
  have hc := h.own.cells rfl
  have k1 := hc _ _ g1
  have k2 := hc _ _ g2
  have k3 := hc _ _ g3
  rw [add_at, Nat.zero_add] at k1 k2 k3
  refine ⟨k1, k2, k3, fun o => ?_⟩
  obtain ⟨_, h1 | ⟨g', cap', cur, e, _, hg', _⟩⟩ := h.own
  · cases h1.1
  · simp only [Value.slice.injEq, Option.some.injEq, Addr.mk.injEq] at e
    rw [← e.1.1] at hg'
    simp [World.frozen?, hg']
end
end Go.Proofs.YtoamapdfcdefjaaGreat
