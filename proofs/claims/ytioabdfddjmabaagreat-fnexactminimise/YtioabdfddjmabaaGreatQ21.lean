/-
  MinZ
-/
import Derived.Test.YtioabdfddjmabaaGreatQ20
import Derived.Test.YtioabdfddjmabaaGreatQ02
namespace Go.Proofs.YtioabdfddjmabaaGreat
open Go.RowKit
set_option linter.unusedVariables false

def SmPost (rules : List Ru) (w : World) (e : Ending) (w' : World) : Prop := ∃ v os, e = .returned v ∧ IsSmall rules (os.map Prod.fst) ∧ OwnM w.heap.size w' w.heap.size v os ∧ Below w.heap.size w w'
theorem norm_take {r : Ru} {k : Nat} (h : k < 6) : (normR r).take (k + 1) = (normR r).take k ++ [normK (r.getD k K.zero)] := by
  have hl : k < (normR r).length := by rw [normR_len]; exact h
  rw [List.take_add_one, List.getElem?_eq_getElem hl]
  have := normR_getD r h
  rw [List.getD_eq_getElem?_getD, List.getElem?_eq_getElem hl] at this
  rw [← this]; rfl
/-- on the way: what is left to do from cur on -/
structure OnWay (l0 cur : List Ru) (m : Bool) : Prop where
  nr : NRs cur
  len : cur.length ≤ 1000
  steps : ∀ x, Steps cur x → Steps l0 x
  stuck : m = false → Stuck cur
theorem OnWay.step {l0 cur nx : List Ru} {m : Bool} (h : OnWay l0 cur m) (hs : Step cur nx) : OnWay l0 nx true ∧ nx.length < cur.length := by
  obtain ⟨h1, h2, _, _⟩ := hs.keeps h.nr
  have := h.len
  exact ⟨⟨h1, by omega, fun x hx => h.steps x (.more hs hx), fun e => by cases e⟩, by omega⟩
theorem OnWay.stop {l0 cur : List Ru} {m : Bool} (h : OnWay l0 cur m) (hs : Stuck cur) : OnWay l0 cur false := ⟨h.nr, h.len, h.steps, fun _ => hs⟩
def moreV : Value → Nat
  | .bool true => 1
  | _ => 0

set_option maxRecDepth 100000 in
set_option maxHeartbeats 8000000 in
theorem l3small_any (rules : List Ru) (a : Option Addr) (cap : Nat) (w : World) (hs : LSrc 1 PR w a rules) (hv : ∀ r ∈ rules, VR r) (hn : rules.length ≤ 1000) :
    Calls Tryz.prog 30 #[.slice a rules.length cap] w fun e w' => SmPost rules w e w' := by
  obtain ⟨i0, hi, hz0, hz1, hz2⟩ := info_parts infoConM
  obtain ⟨i1, hi1, hy0, hy1, hy2⟩ := info_parts infoRuleM
  have HR : Hid (∀ wr, Below w.heap.size w wr → ∀ i, i < rules.length → ∃ b o b2 o2 cap', a = some ⟨b, o, none⟩ ∧ wr.cell? ⟨b, o + i, none⟩ = some (.slice (some ⟨b2, o2, none⟩) 6 cap') ∧ b2 < wr.heap.size ∧ LAt 3 PK wr b2 o2 (at' rules i)) := fun wr hB i hi => by
    obtain ⟨b, o, a', cap', h1, h2, h3, h4⟩ := rules_read (lsrc_map hs fun _ _ _ h => h.toL) (fun r hr => (hv r hr).1) (v := .slice none 0 0) hB hi (fun q hq => by cases hq)
    obtain ⟨b2, o2, c2, e, g1, g2, g3, g4, _⟩ := h4
    simp only at e
    cases e
    exact ⟨b, o, b2, o2, _, h1, h2, g3, g4⟩
  have HV : Hid (∀ i, i < rules.length → VR (at' rules i)) := fun i hi => hv _ (at_mem hi)
  have HM : Hid (∀ i, i < rules.length → (rules.map normR).take (i + 1) = (rules.map normR).take i ++ [normR (at' rules i)]) := fun i hi => by
    have hl : i < (rules.map normR).length := by simpa using hi
    rw [List.take_add_one, List.getElem?_eq_getElem hl, at', List.getD_eq_getElem?_getD, List.getElem?_eq_getElem hi]
    simp
  have HMl : Hid (∀ i, i ≤ rules.length → ((rules.map normR).take i).length = i) := fun i hi => by rw [List.length_take, List.length_map]; omega
  have HMa : Hid ((rules.map normR).take rules.length = rules.map normR) := by show _ = _; exact List.take_of_length_le (by simp)
  have HNR : Hid (NRs (rules.map normR)) := fun r hr => by
    obtain ⟨x, hx, rfl⟩ := List.mem_map.1 hr
    exact normR_NR (hv x hx)
  have HSo : Hid (∀ l a cap w1, LSrc 1 (PRL w.heap.size) w1 a l → NRs l → l.length ≤ 1000 → Calls Tryz.prog 56 #[.slice a l.length cap] w1 fun e w' => SortPost w.heap.size l w1 e w') := fun l a cap w1 h1 h2 h3 => l3sort_any _ l a cap w1 h1 h2 h3
  have HSt : Hid (∀ l a cap w1, LSrc 1 (PRL w.heap.size) w1 a l → NRs l → l.length ≤ 1000 → w.heap.size ≤ w1.heap.size → Calls Tryz.prog 57 #[.slice a l.length cap] w1 fun e w' => StepPost w.heap.size l a cap w1 e w') := fun l a cap w1 h1 h2 h3 h4 => l3step_any _ l a cap w1 h1 h2 h3 h4
  have HIs : Hid (∀ l0 m out, DistG ordR (rules.map normR) l0 → Steps l0 m → DistG ordR m out → IsSmall rules out) := fun l0 m out h1 h2 h3 => ⟨l0, m, h1, h2, h3⟩
  have HDl : Hid (∀ l0, DistG ordR (rules.map normR) l0 → NRs l0 ∧ l0.length ≤ rules.length) := fun l0 h => by
    refine ⟨fun r hr => HNR.out r ((h.2 r).1 hr), ?_⟩
    have := nodup_len (ascG_nodup linR h.1) fun c hc => (h.2 c).1 hc
    simpa using this
  clear hs hv
  generalize rules.length = n at *
  generalize rules.map normR = nl at *
  go_enter Tryz.func30, Tryz.ntmps30
  go_wp2_with fail
  go_loopw [3, 4] (fun s' i wr => ∃ (j : Nat) (s : Value) (os : List (Ru × Value)), j ≤ n ∧ i = .int .i64 j ∧ s = s' ∧ OwnM w.heap.size wr w.heap.size s os ∧ Hid (os.map Prod.fst = nl.take j) ∧ Below w.heap.size w wr) (fun _ i _ => n - (intOf i).toNat)
  case atStart => exact ⟨0, _, [], by omega, rfl, rfl, OwnM.nil _ _, by show _ = _; simp, Below.refl _ _⟩
  case round =>
    obtain ⟨j, s, os, hj, rfl, hss, hO, HMj, B⟩ := hrel
    subst hss
    rename World => W0
    by_cases hjn : j < n
    · have hjn' : (j : Int) < (n : Int) := by omega
      obtain ⟨b, o, b2, o2, cap', rfl, cr, hb2, hL2⟩ := HR.out W0 B j hjn
      have T0 := BR.new 41 3 W0 44
      have HVj := (HV.out j hjn).2
      have HNC : Hid (∀ k w1, Calls Tryz.prog 55 #[conV ((at' rules j).getD k K.zero)] w1 fun e w' => e = .returned (conV (normK ((at' rules j).getD k K.zero))) ∧ Below w1.heap.size w1 w') := fun k w1 => l3norm_any _ w1 (HVj k).1 (HVj k).2
      have HL3 : Hid (∀ wr, Below W0.heap.size W0 wr → ∀ k, k < 6 → PK wr b2 (o2 + k * 3) ((at' rules j).getD k K.zero)) := fun wr hb k hk => PK.stays _ _ _ _ _ hb2 hb (hL2.get (by rw [(HV.out j hjn).1]; exact hk) K.zero)
      have hol : os.length = j := by
        have := congrArg List.length HMj.out
        rw [List.length_map, HMl.out j hj] at this; exact this
      have HMj2 : Hid (∀ x, (os ++ [(normR (at' rules j), x)]).map Prod.fst = nl.take (j + 1)) := fun x => by
        rw [List.map_append, HMj.out, HM.out j hjn]; rfl
      have HNT : Hid (∀ k, k < 6 → kcs ((normR (at' rules j)).take (k + 1)) = kcs ((normR (at' rules j)).take k) ++ [.int .i64 (normK ((at' rules j).getD k K.zero)).kind, .int .u64 ((normK ((at' rules j).getD k K.zero)).a : Int), .int .u64 ((normK ((at' rules j).getD k K.zero)).b : Int)]) := fun k hk => by rw [norm_take hk, kcs_snoc]
      have HN6 : Hid ((normR (at' rules j)).take 6 = normR (at' rules j)) := by show _ = _; exact List.take_of_length_le (by rw [normR_len]; exact Nat.le_refl 6)
      clear HR HV HM HMl HMa HNR HSo HSt HIs HDl HVj hL2 HMj
      generalize at' rules j = r at *
      go_wp2_with fail
      generalize W0.alloc (.cells #[.slice none 0 0] 44) = WB at *
      go_loopw [6] (fun i wr => ∃ (k : Nat) (v : Value), k ≤ 6 ∧ i = .int .i64 k ∧ BR 41 3 W0 wr v k (kcs ((normR r).take k))) (fun i _ => 6 - (intOf i).toNat)
      case atStart => exact ⟨0, _, by omega, rfl, T0⟩
      case round =>
        clear T0
        obtain ⟨k, v, hk, rfl, hT⟩ := hrel
        rename World => W1
        by_cases hk6 : k < 6
        · have hk6' : (k : Int) < 6 := by omega
          obtain ⟨av, cv, rfl⟩ := own_form hT.own
          obtain ⟨c0, c1, c2⟩ := HL3.out W1 hT.b k hk6
          have crr := cell_step hT.b cr
          have HNk := HNC.out k
          have HNTk := HNT.out k hk6
          have hbm : k + 1 ≤ maxLen := by unfold maxLen; omega
          have hbd : (k + 1) * 24 ≤ 140737488355328 := by omega
          have hvl : W0.heap.size < W1.heap.size := cell_ltM hT.c
          generalize hcx : normK (r.getD k K.zero) = nx at *
          generalize r.getD k K.zero = cx at *
          obtain ⟨ck, ca, cb⟩ := cx
          obtain ⟨nk, na, nb⟩ := nx
          simp only at c0 c1 c2 HNTk
          simp only [conV] at HNk
          have HN2 : Hid (∀ w1, Calls Tryz.prog 55 #[.agg #[.int .i64 ck, .int .u64 (ca : Int), .int .u64 (cb : Int)]] w1 fun e w' => e = .returned (.agg #[.int .i64 nk, .int .u64 (na : Int), .int .u64 (nb : Int)]) ∧ Below w1.heap.size w1 w') := HNk
          have HK : Hid (kcs ((normR r).take (k + 1)) = kcs ((normR r).take k) ++ [.int .i64 nk, .int .u64 (na : Int), .int .u64 (nb : Int)]) := HNTk
          have hT1 := hT.keep (Below.refl _ _).drew
          have SKc : Hid (∀ w9, Below W1.drew.heap.size W1.drew w9 → BR 41 3 W0 w9 (.slice av k cv) k (kcs ((normR r).take k)) ∧ w9.cell? ⟨W0.heap.size, 0, none⟩ = some (.slice av k cv) ∧ W0.heap.size < w9.heap.size ∧ (∀ ob, (w9.alloc ob).cell? ⟨W0.heap.size, 0, none⟩ = some (.slice av k cv))) := fun w9 hb => by
            have := hT1.keep hb
            exact ⟨this, this.c, cell_ltM this.c, fun ob => cell_step ((Below.refl _ _).alloc (Nat.le_refl _) ob) this.c⟩
          have c0d : W1.drew.cell? ⟨b2, o2 + k * 3, none⟩ = some (.int .i64 ck) := c0
          have c1d : W1.drew.cell? ⟨b2, o2 + k * 3 + 1, none⟩ = some (.int .u64 (ca : Int)) := c1
          have c2d : W1.drew.cell? ⟨b2, o2 + k * 3 + 2, none⟩ = some (.int .u64 (cb : Int)) := c2
          have crd : W1.drew.cell? ⟨b, o + j, none⟩ = some (.slice (some ⟨b2, o2, none⟩) 6 cap') := crr
          have hcd : W1.drew.cell? ⟨W0.heap.size, 0, none⟩ = some (.slice av k cv) := hT.c
          clear hT hT1 c0 c1 c2 crr HNk HNTk hcx HNC HL3 HNT HN6 HMj2 hO
          go_wp2_with fail
          go_region_law (first
            | (go_simp; refine (HN2.out _).mono ?_; rintro _ w9 ⟨rfl, hb9⟩; obtain ⟨hS9, hc9, hl9, ha9⟩ := SKc.out w9 hb9; dsimp only)
            | (refine step_append_lies _ (by rfl) _ _ _ (by rfl) (W0.heap.size + 1) 41 i0 _ 3 24 Tryz.underlying42 hi hz0 hz1 hz2 rfl (by omega) (.slice av k cv) k (kcs ((normR r).take k)) (by rfl) (hS9.own.alloc _) ⟨w9.heap.size, 0, none⟩ 1 1 [.int .i64 nk, .int .u64 (na : Int), .int .u64 (nb : Int)] (by rfl) (by rfl) (World.news_of_block (t := 41) (fr := (0, 0)) (heap_alloc_new w9 _)) (by simp [Value.oneCell']) (by omega) hbm hbd (by simp; omega) (w9.heap.size + 1) (by simp) ?_; intro gg cap2 w1 hown1 hgrow hat hlt2; obtain ⟨x1, x2, x3⟩ := (hS9.keep ((Below.refl _ _).alloc (Nat.le_refl _) _)).next hown1 hgrow))
          all_goals
            rw [← HK.out] at x3
            have HX3 : Hid _ := x3
            clear x1 x2 x3 hown1 hgrow hat hlt2 hS9 hc9 hl9 ha9 hb9 SKc HN2 c0d c1d c2d crd hcd HK
            go_wp2
            go_roundw
            case rel => exact ⟨k + 1, _, by omega, by go_num, HX3.out⟩
            case measure => simp [intOf]; omega
        · have hk' : k = 6 := by omega
          subst hk'
          obtain ⟨g, cg, rfl⟩ := own_pos hT.own (by omega)
          have hge := (hT.own.lt g rfl)
          have hc1 := hT.c
          have hB1 := B.trans (hT.b.mono B.size)
          have O1 := hO.below hT.b
          have hgood : goodN w.heap.size W1 s (normR r, .slice (some ⟨g, 0, none⟩) 6 cg) := by
            refine ⟨g, 0, cg, rfl, normR_len r, fun e => ?_, hge.2, own_lat (by have h := hT.own; rw [HN6.out] at h; exact h) (normR_len r), by have := B.size; omega⟩
            have := (hO.row.lt g e).2
            omega
          have hbm : os.length + 1 ≤ maxLen := by unfold maxLen; omega
          have hbd : (os.length + 1) * 24 ≤ 140737488355328 := by omega
          have hsz := hB1.size
          have hbs : w.heap.size ≤ (W1.alloc (.cells #[.slice (some ⟨g, 0, none⟩) 6 cg] 44)).heap.size := by simp; omega
          clear hT hO HNC HL3 HNT HN6
          go_wp2_with (at_builtin; refine wpList_append_lies _ rfl (.tmp 32) (.tmp 34) 35 rfl (w.heap.size) 44 i1 _ 1 24 Tryz.underlying35 hi1 hy0 hy1 hy2 rfl (by decide) s os.length (os.map Prod.snd) rfl (O1.row.alloc _) ⟨W1.heap.size, 0, none⟩ 1 1 [.slice (some ⟨g, 0, none⟩) 6 cg] rfl rfl (cell_one_new _ _ _) (by intro u hu; simp at hu; subst hu; rfl) (by omega) hbm hbd hbs _ rfl ?_)
          intro gg cp w9 ow gr hat _
          have O9 := O1.next hgood (by omega) ow gr hat
          have B9 : Below w.heap.size w w9 := (hB1.alloc hsz _).grown gr hbs (fun t ht => (O1.row.lt t ht).1)
          have HM9 := HMj2.out (.slice (some ⟨g, 0, none⟩) 6 cg)
          have HM9' : Hid _ := HM9
          clear ow gr hat O1 hgood hB1 hc1 hbm hbd hbs HM9 HMj2
          go_wp2
          go_roundw
          case rel => exact ⟨j + 1, _, _, by omega, by go_num, rfl, O9, HM9'.out, B9⟩
          case measure => simp [intOf]; omega
    · have hjn' : j = n := by omega
      subst hjn'
      have hnn : ¬ (j : Int) < (j : Int) := by omega
      have hml : os.map Prod.fst = nl := HMj.out.trans HMa.out
      obtain ⟨al, cl, rfl, _, hsl⟩ := hO.src
      rw [hml] at hsl
      have hol : os.length = nl.length := by rw [← hml, List.length_map]
      have hnl : nl.length ≤ 1000 := by
        have := HMl.out j (Nat.le_refl _)
        rw [HMa.out] at this; omega
      rw [hol]
      have HSo1 : Hid (Calls Tryz.prog 56 #[.slice al nl.length cl] W0 fun e w' => SortPost w.heap.size nl W0 e w') := HSo.out nl al cl W0 hsl HNR.out hnl
      clear HR HV HM HMl HMa HMj hsl hO hml hol
      go_wp2_with fail
      refine (HSo1.out).mono ?_
      rintro _ w1 ⟨v1, os1, rfl, O1, hD1, hb1⟩
      have B1 := B.trans (hb1.mono B.size)
      obtain ⟨hnr1, hlen1⟩ := HDl.out _ hD1
      obtain ⟨a1, c1, rfl, _, hs1⟩ := O1.src
      have HD1 : Hid (DistG ordR nl (os1.map Prod.fst)) := hD1
      have HW0 : Hid (OnWay (os1.map Prod.fst) (os1.map Prod.fst) true) := ⟨hnr1, by omega, fun x h => h, fun e => by cases e⟩
      have hl1 : os1.length = (os1.map Prod.fst).length := by rw [List.length_map]
      rw [hl1]
      clear HSo1 O1 hD1 hnr1 hlen1 hl1 HNR HDl hb1 B
      generalize os1.map Prod.fst = l0 at *
      go_wp2_with fail
      go_loopw [3, 7] (fun s m' wr => ∃ (a2 : Option Addr) (c2 : Nat) (cur : List Ru) (m : Bool), s = .slice a2 cur.length c2 ∧ m' = .bool m ∧ LSrc 1 (PRL w.heap.size) wr a2 cur ∧ Hid (OnWay l0 cur m) ∧ Below w.heap.size w wr) (fun s m' _ => lenV s + moreV m')
      case atStart => exact ⟨a1, c1, l0, true, rfl, rfl, hs1, HW0, B1⟩
      case round =>
        clear hs1 HW0 B1
        obtain ⟨a2, c2, cur, m, rfl, rfl, hs2, HO, B2⟩ := hrel
        rename World => W2
        cases m with
        | true =>
          have HSt1 : Hid (Calls Tryz.prog 57 #[.slice a2 cur.length c2] W2 fun e w' => StepPost w.heap.size cur a2 c2 W2 e w') := HSt.out cur a2 c2 W2 hs2 HO.out.nr HO.out.len B2.size
          clear HSt HSo HIs HD1
          go_wp2_with fail
          refine (HSt1.out).mono ?_
          rintro _ w3 ⟨⟨v3, os3, hst, rfl, O3⟩ | ⟨hst, rfl⟩, hb3⟩
          · obtain ⟨a3, c3, rfl, _, hs3⟩ := O3.src
            have B3 := B2.trans (hb3.mono B2.size)
            obtain ⟨hw3, hlt3⟩ := HO.out.step hst
            have HW3 : Hid (OnWay l0 (os3.map Prod.fst) true) := hw3
            have hl3 : os3.length = (os3.map Prod.fst).length := by rw [List.length_map]
            rw [hl3]
            clear O3 hst hw3 hb3 B2 HO HSt1 hl3 hs2
            generalize os3.map Prod.fst = cur3 at *
            go_wp2
            go_roundw
            case rel => exact ⟨a3, c3, cur3, true, rfl, rfl, hs3, HW3, B3⟩
            case measure => simp only [lenV, moreV]; omega
          · have B3 := B2.trans (hb3.mono B2.size)
            have hs3 := hs2.below (PRL.stays _) hb3
            have HW3 : Hid (OnWay l0 cur false) := HO.out.stop hst
            clear hst hb3 B2 HO HSt1 hs2
            generalize hcl : cur.length = cn at *
            go_wp2
            go_roundw
            case rel => exact ⟨a2, c2, cur, false, by rw [hcl], rfl, hs3, HW3, B3⟩
            case measure => simp only [lenV, moreV]; omega
        | false =>
          have HSo1 : Hid (Calls Tryz.prog 56 #[.slice a2 cur.length c2] W2 fun e w' => SortPost w.heap.size cur W2 e w') := HSo.out cur a2 c2 W2 hs2 HO.out.nr HO.out.len
          have HSteps : Hid (Steps l0 cur) := HO.out.steps cur (.done (HO.out.stuck rfl))
          clear HSt HSo HO hs2
          go_wp2_with fail
          refine (HSo1.out).mono ?_
          rintro _ w3 ⟨v3, os3, rfl, O3, hD3, hb3⟩
          have HP : Hid (SmPost rules w (.returned v3) w3) := ⟨v3, os3, rfl, HIs.out l0 cur _ HD1.out HSteps.out hD3, O3.mono B2.size, B2.trans (hb3.mono B2.size)⟩
          clear O3 hD3 hb3 HSo1 HIs HD1 HSteps
          go_wp2
          go_ret
          exact HP.out
end Go.Proofs.YtioabdfddjmabaaGreat
