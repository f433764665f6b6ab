/-
  CONTRACTS of the model's ValidPolicy.
-/
import Derived.Test.YtjkmcdgjhfiklaaPolS
namespace Go.Proofs.Ytjkmcdgjhfiklaa
open Go.RowKit
set_option linter.unusedVariables false

theorem totalR_le {p : List E} (hm : ∀ e ∈ p, e.rules.length ≤ 16777216) : totalR p ≤ 16777216 * p.length := by
  induction p with
  | nil => simp [totalR]
  | cons e p ih =>
    have h1 := hm e (List.mem_cons_self ..)
    have h2 := ih (fun x hx => hm x (List.mem_cons_of_mem _ hx))
    simp only [totalR, List.length_cons]
    omega
theorem rule_mem {l : List (List K)} {t : Nat} (h : t < l.length) : l.getD t [] ∈ l := by
  rw [List.getD_eq_getElem?_getD, List.getElem?_eq_getElem h]; exact List.getElem_mem h
theorem entry_mem {p : List E} {i : Nat} (hi : i < p.length) : p.getD i E.zero ∈ p := by
  rw [List.getD_eq_getElem?_getD, List.getElem?_eq_getElem hi]; exact List.getElem_mem hi

set_option maxRecDepth 100000 in
set_option maxHeartbeats 2000000 in
theorem rules_any (p : List E) (a : Option Addr) (cap : Nat) (w : World) (hs : LSrc 3 PE w a p) (hn : p.length ≤ 16777216) (hm : ∀ e ∈ p, e.rules.length ≤ 16777216) :
    Calls Try.prog 49 #[.agg #[.slice a p.length cap]] w fun e w' => e = .returned (.int .i64 (totalR p : Nat)) ∧ Below w.heap.size w w' := by
  have B : Below w.heap.size w (w.alloc (.cells #[.slice a p.length cap] 42)) := (Below.refl _ _).alloc (Nat.le_refl _) _
  have HP : Hid (∀ i, i < p.length → ∃ b o, a = some ⟨b, o, none⟩ ∧ b < w.heap.size ∧ PE w b (o + i * 3) (p.getD i E.zero)) := fun i hi => hs.at hi E.zero
  have HT : Hid (∀ i, i < p.length → totalR (p.take (i + 1)) = totalR (p.take i) + (p.getD i E.zero).rules.length) := fun i hi => totalR_take hi
  have HA : Hid (totalR (p.take p.length) = totalR p) := by show _ = _; rw [List.take_length]
  have HL : Hid (∀ i, i < p.length → totalR (p.take i) + (p.getD i E.zero).rules.length ≤ 281474976710656) := fun i hi => by
    rw [← totalR_take hi]
    have := totalR_le (p := p.take (i + 1)) (fun e he => hm e (List.mem_of_mem_take he))
    have h2 : (p.take (i + 1)).length ≤ p.length := by simp; omega
    omega
  have x0 := box1 w 42 (.slice a p.length cap)
  clear hs hm
  generalize totalR p = tt at *
  generalize p.length = n at *
  go_enter Try.func49, Try.ntmps49
  go_wp2_with fail
  go_loop [3, 4] (fun q i => ∃ k : Nat, k ≤ n ∧ i = .int .i64 k ∧ q = .int .i64 (totalR (p.take k) : Nat)) (fun _ i => n - (intOf i).toNat)
  case atStart => exact ⟨0, by omega, rfl, by simp [totalR]⟩
  case round =>
    obtain ⟨k, hk, rfl, rfl⟩ := hrel
    by_cases hkn : k < n
    · obtain ⟨b, o, rfl, hlt, _, _, a', cap', c2, _⟩ := HP.out k hkn
      have hl := HL.out k hkn
      have HT1 : Hid (totalR (p.take (k + 1)) = totalR (p.take k) + (p.getD k E.zero).rules.length) := HT.out k hkn
      have hne := World.new_ne w _ c2
      generalize totalR (p.take k) = T0 at *
      generalize (p.getD k E.zero).rules.length = m at *
      have hkn' : (k : Int) < (n : Int) := by omega
      clear HP HT HL HA
      go_wp2
      go_round
      case rel =>
        refine ⟨k + 1, by omega, by go_num, ?_⟩
        rw [HT1.out]; simp
      case measure => simp [intOf]; omega
    · have hk' : k = n := by omega
      subst hk'
      have HA' := HA.out
      rw [HA']
      go_wp2
      go_ret
      exact ⟨rfl, B⟩

set_option maxRecDepth 100000 in
set_option maxHeartbeats 4000000 in
theorem specValidP_any (p : List E) (a : Option Addr) (cap : Nat) (w : World) (hs : LSrc 3 PE w a p) (ho : okP p) (hn : p.length ≤ 16777216) (hm : ∀ e ∈ p, e.rules.length ≤ 16777216) (hm2 : ∀ e ∈ p, ∀ r ∈ e.rules, r.length ≤ 16777216) :
    Calls Try.prog 18 #[.agg #[.slice a p.length cap]] w fun e w' => e = .returned (.bool (validP p)) ∧ Below w.heap.size w w' := by
  have B : Below w.heap.size w (w.alloc (.cells #[.slice a p.length cap] 42)) := (Below.refl _ _).alloc (Nat.le_refl _) _
  have HP : Hid (∀ wr, Below w.heap.size w wr → ∀ i, i < p.length → ∃ b o, a = some ⟨b, o, none⟩ ∧ b < wr.heap.size ∧ PE wr b (o + i * 3) (p.getD i E.zero)) := fun wr hB i hi => (hs.below PE.stays hB).at hi E.zero
  have HNo : Hid (∀ i, i < p.length → stepOk p i = false → validP p = false) := fun i hi h => validP_no hi h
  have HYes : Hid ((∀ i, i < p.length → stepOk p i = true) → validP p = decide (totalR p ≤ 1000)) := fun h => validP_yes h
  have HRs : Hid (∀ w1, Below w.heap.size w w1 → Calls Try.prog 49 #[.agg #[.slice a p.length cap]] w1 fun e w' => e = .returned (.int .i64 (totalR p : Nat)) ∧ Below w1.heap.size w1 w') := fun w1 hb => rules_any p a cap w1 (hs.below PE.stays hb) hn hm
  have HOk0 : Hid (∀ i t, okR ((p.getD i E.zero).rules.getD t [])) := fun i t => okRs_at (okP_at ho i).2.2 t
  have HSm0 : Hid (∀ i, i < p.length → ∀ t, ((p.getD i E.zero).rules.getD t []).length ≤ 16777216) := fun i hi t => by
    by_cases ht : t < (p.getD i E.zero).rules.length
    · exact hm2 _ (entry_mem hi) _ (rule_mem ht)
    · rw [List.getD_eq_getElem?_getD, List.getElem?_eq_none (by omega)]; simp
  have HSt : Hid (∀ i, stepOk p i = ((i == 0 || befE (p.getD (i - 1) E.zero) (p.getD i E.zero)) && validE (p.getD i E.zero))) := fun i => rfl
  have HBd : Hid (∀ i, (0 ≤ (p.getD i E.zero).arch ∧ (p.getD i E.zero).arch ≤ 4294967295) ∧ (0 ≤ (p.getD i E.zero).nr ∧ (p.getD i E.zero).nr ≤ 4294967295)) := fun i => ⟨(okP_at ho i).1, (okP_at ho i).2.1⟩
  have HTl : Hid (totalR p ≤ 281474976710656) := by have := totalR_le hm; unfold Hid; omega
  have x0 := box1 w 42 (.slice a p.length cap)
  obtain ⟨V, hV⟩ : ∃ V, validP p = V := ⟨_, rfl⟩
  rw [hV] at HNo HYes ⊢
  clear hV hs hm hm2 ho
  generalize totalR p = tt at *
  generalize p.length = n at *
  go_enter Try.func18, Try.ntmps18
  go_wp2_with fail
  go_loopw [3] (fun i wr => ∃ k : Nat, k ≤ n ∧ i = .int .i64 k ∧ Hid (∀ j, j < k → stepOk p j = true) ∧ wr.cell? ⟨w.heap.size, 0, none⟩ = some (.slice a n cap) ∧ Below w.heap.size w wr) (fun i _ => n - (intOf i).toNat)
  case atStart => exact ⟨0, by omega, rfl, fun j hj => by omega, x0, B⟩
  case round =>
    clear B x0
    obtain ⟨k, hk, rfl, HJ0, x0, B⟩ := hrel
    rename World => W0
    by_cases hkn : k < n
    · have hkn' : (k : Int) < (n : Int) := by omega
      have HStep1 : Hid (stepOk p k = true → ∀ j, j < k + 1 → stepOk p j = true) := fun h j hj => by
        by_cases hjk : j = k
        · subst hjk; exact h
        · exact HJ0.out j (by omega)
      have HNo1 : Hid (stepOk p k = false → V = false) := HNo.out k hkn
      have HOk : Hid (∀ t, okR ((p.getD k E.zero).rules.getD t [])) := HOk0.out k
      have HSm : Hid (∀ t, ((p.getD k E.zero).rules.getD t []).length ≤ 16777216) := HSm0.out k hkn
      obtain ⟨b, o, rfl, hlt, c0, c1, ar, capr, c2, hsr⟩ := HP.out W0 B k hkn
      obtain ⟨⟨ar0, ar1⟩, ⟨nr0, nr1⟩⟩ := HBd.out k
      have HRl0 : Hid (∀ wr, Below W0.heap.size W0 wr → ∀ t, t < (p.getD k E.zero).rules.length → ∃ ab ao, ar = some ⟨ab, ao, none⟩ ∧ ab < wr.heap.size ∧ PR wr ab (ao + t * 1) ((p.getD k E.zero).rules.getD t [])) := fun wr hb t ht => (hsr.below PR.stays hb).at ht []
      have HVE : Hid (validE (p.getD k E.zero) = (decide (1 ≤ (p.getD k E.zero).rules.length) && decide ((p.getD k E.zero).rules.length ≤ 200) && (p.getD k E.zero).rules.all validR)) := rfl
      have HStk := HSt.out k
      have HAll : Hid ((∀ s, s < (p.getD k E.zero).rules.length → validR ((p.getD k E.zero).rules.getD s []) = true) → (p.getD k E.zero).rules.all validR = true) := fun h => (all_getD [] validR _).2 h
      have HAno : Hid (∀ s, s < (p.getD k E.zero).rules.length → validR ((p.getD k E.zero).rules.getD s []) = false → (p.getD k E.zero).rules.all validR = false) := fun s hs h => all_no hs h
      generalize p.getD k E.zero = e at *
      obtain ⟨arch, nr, rules⟩ := e
      simp only at c0 c1 c2 hsr ar0 ar1 nr0 nr1 HOk HSm HRl0 HVE HAll HAno
      generalize hmr : rules.length = m at *
      have HRl := HRl0
      clear HRl0 hsr
      by_cases hok : 1 ≤ m ∧ m ≤ 200
      · have HE : Hid (validE ⟨arch, nr, rules⟩ = rules.all validR) := by unfold Hid; rw [HVE.out]; simp [hok.1, hok.2]
        obtain ⟨hok1, hok2⟩ := hok
        have hm1 : (1 : Int) ≤ (m : Int) := by omega
        have hm2 : (m : Int) ≤ 200 := by omega
        by_cases hk0 : k = 0
        · have hz : ¬ (0 : Int) < (k : Int) := by omega
          have HGood : Hid ((∀ s, s < m → validR (rules.getD s []) = true) → ∀ j, j < k + 1 → stepOk p j = true) := fun h => HStep1.out (by rw [HStk, HE.out, HAll.out h]; simp [hk0])
          have HBad : Hid (∀ s, s < m → validR (rules.getD s []) = false → V = false) := fun s hs h => HNo1.out (by rw [HStk, HE.out, HAno.out s hs h]; simp)
          have Xe := BoxK.new W0 81 (.int .u32 arch) (.int .u32 nr) (.slice ar m capr)
          have Bx : Below W0.heap.size W0 (W0.alloc (.cells #[.int .u32 arch, .int .u32 nr, .slice ar m capr] 81)) := (Below.refl _ _).alloc (Nat.le_refl _) _
          have x1 := cell_step Bx x0
          clear hk0 HStep1 HNo1 HStk HE HAll HAno HVE HP HNo HYes HRs HOk0 HSm0 HSt HBd HTl HJ0 hmr
          go_wp2_with fail
          go_loopw [6] (fun j wr => ∃ t : Nat, t ≤ m ∧ j = .int .i64 t ∧ Hid (∀ s, s < t → validR (rules.getD s []) = true) ∧ BoxK wr W0.heap.size (.int .u32 arch) (.int .u32 nr) (.slice ar m capr) ∧ wr.cell? ⟨w.heap.size, 0, none⟩ = some (.slice (some ⟨b, o, none⟩) n cap) ∧ Below W0.heap.size W0 wr) (fun j _ => m - (intOf j).toNat)
          case atStart => exact ⟨0, by omega, rfl, fun s hs => by omega, Xe, x1, Bx⟩
          case round =>
            clear Xe x1 Bx
            obtain ⟨t, ht, rfl, HJ, Xe, x1, Bx⟩ := hrel
            have Xe1 := Xe
            obtain ⟨_, e0, e1, e2, _, _, _⟩ := Xe1
            by_cases htm : t < m
            · obtain ⟨ab, ao, har, hablt, a2, cap2, r0, hsr2⟩ := HRl.out wr Bx t htm
              have HRo : Hid (∀ w1, Below wr.heap.size wr w1 → Calls Try.prog 48 #[.agg #[.slice a2 (rules.getD t []).length cap2]] w1 fun e w' => e = .returned (.bool (validR (rules.getD t []))) ∧ Below w1.heap.size w1 w') := fun w1 hb => ruleOK_any _ a2 cap2 w1 (hsr2.below PK.stays hb) (HOk.out t) (HSm.out t)
              have HJ1 : Hid (validR (rules.getD t []) = true → ∀ s, s < t + 1 → validR (rules.getD s []) = true) := fun h s hs => by
                by_cases hst : s = t
                · subst hst; exact h
                · exact HJ.out s (by omega)
              have HF1 : Hid (validR (rules.getD t []) = false → V = false) := fun h => HBad.out t htm h
              rw [Nat.mul_one] at r0
              generalize validR (rules.getD t []) = Q at *
              generalize (rules.getD t []).length = len2 at *
              subst har
              have htm' : (t : Int) < (m : Int) := by omega
              clear HJ hsr2
              go_wp2_with fail
              refine (HRo.out _ (Below.refl _ _)).mono ?_
              rintro _ w5 ⟨rfl, hb5⟩
              have B5 := below_step hb5 Bx
              have x5 := cell_step hb5 x1
              have X5 := Xe.keep hb5
              clear hb5 e0 e1 e2 x1 r0 HRo Xe
              cases Q with
              | false =>
                have hVf : V = false := HF1.out (by first | rfl | trivial)
                subst hVf
                go_wp2
                go_ret
                exact ⟨rfl, below_step B5 B⟩
              | true =>
                have HJ2 : Hid (∀ s, s < t + 1 → validR (rules.getD s []) = true) := HJ1.out (by first | rfl | trivial)
                go_wp2
                go_roundw
                case rel => exact ⟨t + 1, by omega, by go_num, HJ2, X5, x5, B5⟩
                case measure => simp [intOf]; omega
            · have htm' : t = m := by omega
              subst htm'
              have HG : Hid (∀ j, j < k + 1 → stepOk p j = true) := HGood.out HJ.out
              have B6 := below_step Bx B
              go_wp2
              go_roundw
              case rel => exact ⟨k + 1, by omega, by go_num, HG, x1, B6⟩
              case measure => simp [intOf]; omega
        · have hz : (0 : Int) < (k : Int) := by omega
          have hk1 : ((k : Int) - 1).toNat = k - 1 := by omega
          have hkb : (k == 0) = false := by rw [beq_eq_false_iff_ne]; exact hk0
          rw [hkb, Bool.false_or] at HStk
          obtain ⟨b', o', hbo, _, d0, d1, ar', capr', d2, _⟩ := HP.out W0 B (k - 1) (by omega)
          cases hbo
          obtain ⟨⟨br0, br1⟩, ⟨bn0, bn1⟩⟩ := HBd.out (k - 1)
          generalize p.getD (k - 1) E.zero = d at *
          obtain ⟨arch', nr', rules'⟩ := d
          simp only at d0 d1 d2 br0 br1 bn0 bn1
          generalize rules'.length = m' at *
          have Xe := (BoxK.new W0 81 (.int .u32 arch) (.int .u32 nr) (.slice ar m capr)).alloc (.cells #[.int .u32 arch', .int .u32 nr', .slice ar' m' capr'] 81)
          have Bx : Below W0.heap.size W0 ((W0.alloc (.cells #[.int .u32 arch, .int .u32 nr, .slice ar m capr] 81)).alloc (.cells #[.int .u32 arch', .int .u32 nr', .slice ar' m' capr'] 81)) := ((Below.refl _ _).alloc (Nat.le_refl _) _).alloc (by simp) _
          have x1 := cell_step Bx x0
          have HBf : Hid (befE ⟨arch', nr', rules'⟩ ⟨arch, nr, rules⟩ = (decide (arch' < arch) || (arch' == arch && decide (nr' < nr)))) := rfl
          have hne0 := World.new_ne W0 _ d0
          have hnx := World.new_ne W0 _ x0
          have BE : Below W0.heap.size W0 (W0.alloc (.cells #[.int .u32 arch, .int .u32 nr, .slice ar m capr] 81)) := (Below.refl _ _).alloc (Nat.le_refl _) _
          have y0 := cell_step BE x0
          have dd0 := cell_step BE d0
          have dd1 := cell_step BE d1
          have dd2 := cell_step BE d2
          by_cases hlt1 : arch' < arch
          · have HGood : Hid ((∀ s, s < m → validR (rules.getD s []) = true) → ∀ j, j < k + 1 → stepOk p j = true) := fun h => HStep1.out (by rw [HStk, HE.out, HAll.out h, HBf.out]; simp [hlt1])
            have HBad : Hid (∀ s, s < m → validR (rules.getD s []) = false → V = false) := fun s hs h => HNo1.out (by rw [HStk, HE.out, HAno.out s hs h]; simp)
            have g1 : ¬ arch < arch' := by omega
            have g2 : (arch' == arch) = false := by rw [beq_eq_false_iff_ne]; omega
            clear hk0 hkb HStep1 HNo1 HStk HE HAll HAno HVE HP HNo HYes HRs HOk0 HSm0 HSt HBd HTl HJ0 hmr HBf
            go_wp2_with fail
            go_loopw [6] (fun j wr => ∃ t : Nat, t ≤ m ∧ j = .int .i64 t ∧ Hid (∀ s, s < t → validR (rules.getD s []) = true) ∧ BoxK wr W0.heap.size (.int .u32 arch) (.int .u32 nr) (.slice ar m capr) ∧ wr.cell? ⟨w.heap.size, 0, none⟩ = some (.slice (some ⟨b, o, none⟩) n cap) ∧ Below W0.heap.size W0 wr) (fun j _ => m - (intOf j).toNat)
            case atStart => exact ⟨0, by omega, rfl, fun s hs => by omega, Xe, x1, Bx⟩
            case round =>
              clear Xe x1 Bx
              obtain ⟨t, ht, rfl, HJ, Xe, x1, Bx⟩ := hrel
              have Xe1 := Xe
              obtain ⟨_, e0, e1, e2, _, _, _⟩ := Xe1
              by_cases htm : t < m
              · obtain ⟨ab, ao, har, hablt, a2, cap2, r0, hsr2⟩ := HRl.out wr Bx t htm
                have HRo : Hid (∀ w1, Below wr.heap.size wr w1 → Calls Try.prog 48 #[.agg #[.slice a2 (rules.getD t []).length cap2]] w1 fun e w' => e = .returned (.bool (validR (rules.getD t []))) ∧ Below w1.heap.size w1 w') := fun w1 hb => ruleOK_any _ a2 cap2 w1 (hsr2.below PK.stays hb) (HOk.out t) (HSm.out t)
                have HJ1 : Hid (validR (rules.getD t []) = true → ∀ s, s < t + 1 → validR (rules.getD s []) = true) := fun h s hs => by
                  by_cases hst : s = t
                  · subst hst; exact h
                  · exact HJ.out s (by omega)
                have HF1 : Hid (validR (rules.getD t []) = false → V = false) := fun h => HBad.out t htm h
                rw [Nat.mul_one] at r0
                generalize validR (rules.getD t []) = Q at *
                generalize (rules.getD t []).length = len2 at *
                subst har
                have htm' : (t : Int) < (m : Int) := by omega
                clear HJ hsr2
                go_wp2_with fail
                refine (HRo.out _ (Below.refl _ _)).mono ?_
                rintro _ w5 ⟨rfl, hb5⟩
                have B5 := below_step hb5 Bx
                have x5 := cell_step hb5 x1
                have X5 := Xe.keep hb5
                clear hb5 e0 e1 e2 x1 r0 HRo Xe
                cases Q with
                | false =>
                  have hVf : V = false := HF1.out (by first | rfl | trivial)
                  subst hVf
                  go_wp2
                  go_ret
                  exact ⟨rfl, below_step B5 B⟩
                | true =>
                  have HJ2 : Hid (∀ s, s < t + 1 → validR (rules.getD s []) = true) := HJ1.out (by first | rfl | trivial)
                  go_wp2
                  go_roundw
                  case rel => exact ⟨t + 1, by omega, by go_num, HJ2, X5, x5, B5⟩
                  case measure => simp [intOf]; omega
              · have htm' : t = m := by omega
                subst htm'
                have HG : Hid (∀ j, j < k + 1 → stepOk p j = true) := HGood.out HJ.out
                have B6 := below_step Bx B
                go_wp2
                go_roundw
                case rel => exact ⟨k + 1, by omega, by go_num, HG, x1, B6⟩
                case measure => simp [intOf]; omega
          by_cases heq : arch' = arch
          · subst heq
            by_cases hlt2 : nr' < nr
            · have HGood : Hid ((∀ s, s < m → validR (rules.getD s []) = true) → ∀ j, j < k + 1 → stepOk p j = true) := fun h => HStep1.out (by rw [HStk, HE.out, HAll.out h, HBf.out]; simp [hlt2])
              have HBad : Hid (∀ s, s < m → validR (rules.getD s []) = false → V = false) := fun s hs h => HNo1.out (by rw [HStk, HE.out, HAno.out s hs h]; simp)
              have g3 : ¬ nr ≤ nr' := by omega
              clear hk0 hkb HStep1 HNo1 HStk HE HAll HAno HVE HP HNo HYes HRs HOk0 HSm0 HSt HBd HTl HJ0 hmr HBf
              go_wp2_with fail
              go_loopw [6] (fun j wr => ∃ t : Nat, t ≤ m ∧ j = .int .i64 t ∧ Hid (∀ s, s < t → validR (rules.getD s []) = true) ∧ BoxK wr W0.heap.size (.int .u32 arch') (.int .u32 nr) (.slice ar m capr) ∧ wr.cell? ⟨w.heap.size, 0, none⟩ = some (.slice (some ⟨b, o, none⟩) n cap) ∧ Below W0.heap.size W0 wr) (fun j _ => m - (intOf j).toNat)
              case atStart => exact ⟨0, by omega, rfl, fun s hs => by omega, Xe, x1, Bx⟩
              case round =>
                clear Xe x1 Bx
                obtain ⟨t, ht, rfl, HJ, Xe, x1, Bx⟩ := hrel
                have Xe1 := Xe
                obtain ⟨_, e0, e1, e2, _, _, _⟩ := Xe1
                by_cases htm : t < m
                · obtain ⟨ab, ao, har, hablt, a2, cap2, r0, hsr2⟩ := HRl.out wr Bx t htm
                  have HRo : Hid (∀ w1, Below wr.heap.size wr w1 → Calls Try.prog 48 #[.agg #[.slice a2 (rules.getD t []).length cap2]] w1 fun e w' => e = .returned (.bool (validR (rules.getD t []))) ∧ Below w1.heap.size w1 w') := fun w1 hb => ruleOK_any _ a2 cap2 w1 (hsr2.below PK.stays hb) (HOk.out t) (HSm.out t)
                  have HJ1 : Hid (validR (rules.getD t []) = true → ∀ s, s < t + 1 → validR (rules.getD s []) = true) := fun h s hs => by
                    by_cases hst : s = t
                    · subst hst; exact h
                    · exact HJ.out s (by omega)
                  have HF1 : Hid (validR (rules.getD t []) = false → V = false) := fun h => HBad.out t htm h
                  rw [Nat.mul_one] at r0
                  generalize validR (rules.getD t []) = Q at *
                  generalize (rules.getD t []).length = len2 at *
                  subst har
                  have htm' : (t : Int) < (m : Int) := by omega
                  clear HJ hsr2
                  go_wp2_with fail
                  refine (HRo.out _ (Below.refl _ _)).mono ?_
                  rintro _ w5 ⟨rfl, hb5⟩
                  have B5 := below_step hb5 Bx
                  have x5 := cell_step hb5 x1
                  have X5 := Xe.keep hb5
                  clear hb5 e0 e1 e2 x1 r0 HRo Xe
                  cases Q with
                  | false =>
                    have hVf : V = false := HF1.out (by first | rfl | trivial)
                    subst hVf
                    go_wp2
                    go_ret
                    exact ⟨rfl, below_step B5 B⟩
                  | true =>
                    have HJ2 : Hid (∀ s, s < t + 1 → validR (rules.getD s []) = true) := HJ1.out (by first | rfl | trivial)
                    go_wp2
                    go_roundw
                    case rel => exact ⟨t + 1, by omega, by go_num, HJ2, X5, x5, B5⟩
                    case measure => simp [intOf]; omega
                · have htm' : t = m := by omega
                  subst htm'
                  have HG : Hid (∀ j, j < k + 1 → stepOk p j = true) := HGood.out HJ.out
                  have B6 := below_step Bx B
                  go_wp2
                  go_roundw
                  case rel => exact ⟨k + 1, by omega, by go_num, HG, x1, B6⟩
                  case measure => simp [intOf]; omega
            · have hVf : V = false := HNo1.out (by rw [HStk, HBf.out]; simp [hlt2])
              subst hVf
              have g3 : nr ≤ nr' := by omega
              have B6 := below_step Bx B
              clear hk0 hkb HStep1 HNo1 HStk HE HAll HAno HVE HP HNo HYes HRs HOk0 HSm0 HSt HBd HTl HJ0 hmr HBf HRl
              go_wp2
              go_ret
              exact ⟨rfl, B6⟩
          · have hVf : V = false := HNo1.out (by rw [HStk, HBf.out]; simp [hlt1, heq])
            subst hVf
            have g1 : arch < arch' := by omega
            have B6 := below_step Bx B
            clear hk0 hkb HStep1 HNo1 HStk HE HAll HAno HVE HP HNo HYes HRs HOk0 HSm0 HSt HBd HTl HJ0 hmr HBf HRl
            go_wp2
            go_ret
            exact ⟨rfl, B6⟩
      · have hVf : V = false := HNo1.out (by rw [HStk, HVE.out]; rcases (by omega : m < 1 ∨ 200 < m) with h | h <;> simp <;> omega)
        subst hVf
        have Bx : Below W0.heap.size W0 (W0.alloc (.cells #[.int .u32 arch, .int .u32 nr, .slice ar m capr] 81)) := (Below.refl _ _).alloc (Nat.le_refl _) _
        have B6 := below_step Bx B
        clear HStep1 HNo1 HStk HAll HAno HVE HP HNo HYes HRs HOk0 HSm0 HSt HBd HTl HJ0 hmr HRl
        by_cases hlo : m < 1
        · have g1 : (m : Int) < 1 := by omega
          go_wp2
          go_ret
          exact ⟨rfl, B6⟩
        · have g1 : ¬ (m : Int) < 1 := by omega
          have g2 : (200 : Int) < (m : Int) := by omega
          go_wp2
          go_ret
          exact ⟨rfl, B6⟩
    · have hk' : k = n := by omega
      subst hk'
      have hV := HYes.out HJ0.out
      subst hV
      have htl := HTl.out
      clear HYes HNo HP
      go_wp2_with fail
      refine (HRs.out _ B).mono ?_
      rintro _ w1 ⟨rfl, hb1⟩
      have B1 := below_step hb1 B
      go_wp2
      go_ret
      refine ⟨?_, B1⟩
      simp; omega
end Go.Proofs.Ytjkmcdgjhfiklaa
