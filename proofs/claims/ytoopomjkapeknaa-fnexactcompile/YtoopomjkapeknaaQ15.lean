/-
  PolA, U64, CallM, CallS
-/
import Derived.Test.YtoopomjkapeknaaQ08
import Derived.Test.YtoopomjkapeknaaQ03
import Derived.Test.YtoopomjkapeknaaQ02
import Derived.Test.YtoopomjkapeknaaQ07
namespace Go.Proofs.Ytoopomjkapeknaa
open Go.RowKit
set_option linter.unusedVariables false

theorem totalR_le {p : List E} (hm : ∀ e ∈ p, e.rules.length ≤ 16777216) : totalR p ≤ 16777216 * p.length := by
  induction p with
  | nil => simp [totalR]
  | cons e p ih =>
    have h1 := hm e (List.mem_cons_self ..)
    have h2 := ih (fun x hx => hm x (List.mem_cons_of_mem _ hx))
    simp only [totalR, List.length_cons]
    omega
theorem rule_mem {l : List (List K)} {t : Nat} (h : t < l.length) : l.getD t [] ∈ l := by
  rw [List.getD_eq_getElem?_getD, List.getElem?_eq_getElem h]; exact List.getElem_mem h
theorem entry_mem {p : List E} {i : Nat} (hi : i < p.length) : p.getD i E.zero ∈ p := by
  rw [List.getD_eq_getElem?_getD, List.getElem?_eq_getElem hi]; exact List.getElem_mem hi

set_option maxRecDepth 100000 in
set_option maxHeartbeats 2000000 in
theorem rules_any (p : List E) (a : Option Addr) (cap : Nat) (w : World) (hs : LSrc 3 PE w a p) (hn : p.length ≤ 16777216) (hm : ∀ e ∈ p, e.rules.length ≤ 16777216) :
    Calls Try.prog 26 #[.agg #[.slice a p.length cap]] w fun e w' => e = .returned (.int .i64 (totalR p : Nat)) ∧ Below w.heap.size w w' := by
  have B : Below w.heap.size w (w.alloc (.cells #[.slice a p.length cap] 31)) := (Below.refl _ _).alloc (Nat.le_refl _) _
  have HP : Hid (∀ i, i < p.length → ∃ b o, a = some ⟨b, o, none⟩ ∧ b < w.heap.size ∧ PE w b (o + i * 3) (p.getD i E.zero)) := fun i hi => hs.at hi E.zero
  have HT : Hid (∀ i, i < p.length → totalR (p.take (i + 1)) = totalR (p.take i) + (p.getD i E.zero).rules.length) := fun i hi => totalR_take hi
  have HA : Hid (totalR (p.take p.length) = totalR p) := by show _ = _; rw [List.take_length]
  have HL : Hid (∀ i, i < p.length → totalR (p.take i) + (p.getD i E.zero).rules.length ≤ 281474976710656) := fun i hi => by
    rw [← totalR_take hi]
    have := totalR_le (p := p.take (i + 1)) (fun e he => hm e (List.mem_of_mem_take he))
    have h2 : (p.take (i + 1)).length ≤ p.length := by simp; omega
    omega
  have x0 := box1 w 31 (.slice a p.length cap)
  clear hs hm
  generalize totalR p = tt at *
  generalize p.length = n at *
  go_enter Try.func26, Try.ntmps26
  go_wp2_with fail
  go_loop [3, 4] (fun q i => ∃ k : Nat, k ≤ n ∧ i = .int .i64 k ∧ q = .int .i64 (totalR (p.take k) : Nat)) (fun _ i => n - (intOf i).toNat)
  case atStart => exact ⟨0, by omega, rfl, by simp [totalR]⟩
  case round =>
    obtain ⟨k, hk, rfl, rfl⟩ := hrel
    by_cases hkn : k < n
    · obtain ⟨b, o, rfl, hlt, _, _, a', cap', c2, _⟩ := HP.out k hkn
      have hl := HL.out k hkn
      have HT1 : Hid (totalR (p.take (k + 1)) = totalR (p.take k) + (p.getD k E.zero).rules.length) := HT.out k hkn
      have hne := World.new_ne w _ c2
      generalize totalR (p.take k) = T0 at *
      generalize (p.getD k E.zero).rules.length = m at *
      have hkn' : (k : Int) < (n : Int) := by omega
      clear HP HT HL HA
      go_wp2
      go_round
      case rel =>
        refine ⟨k + 1, by omega, by go_num, ?_⟩
        rw [HT1.out]; simp
      case measure => simp [intOf]; omega
    · have hk' : k = n := by omega
      subst hk'
      have HA' := HA.out
      rw [HA']
      go_wp2
      go_ret
      exact ⟨rfl, B⟩

set_option maxRecDepth 100000 in
set_option maxHeartbeats 4000000 in
theorem specValidP_any (p : List E) (a : Option Addr) (cap : Nat) (w : World) (hs : LSrc 3 PE w a p) (ho : okP p) (hn : p.length ≤ 16777216) (hm : ∀ e ∈ p, e.rules.length ≤ 16777216) (hm2 : ∀ e ∈ p, ∀ r ∈ e.rules, r.length ≤ 16777216) :
    Calls Try.prog 14 #[.agg #[.slice a p.length cap]] w fun e w' => e = .returned (.bool (validP p)) ∧ Below w.heap.size w w' := by
  have B : Below w.heap.size w (w.alloc (.cells #[.slice a p.length cap] 31)) := (Below.refl _ _).alloc (Nat.le_refl _) _
  have HP : Hid (∀ wr, Below w.heap.size w wr → ∀ i, i < p.length → ∃ b o, a = some ⟨b, o, none⟩ ∧ b < wr.heap.size ∧ PE wr b (o + i * 3) (p.getD i E.zero)) := fun wr hB i hi => (hs.below PE.stays hB).at hi E.zero
  have HNo : Hid (∀ i, i < p.length → stepOk p i = false → validP p = false) := fun i hi h => validP_no hi h
  have HYes : Hid ((∀ i, i < p.length → stepOk p i = true) → validP p = decide (totalR p ≤ 1000)) := fun h => validP_yes h
  have HRs : Hid (∀ w1, Below w.heap.size w w1 → Calls Try.prog 26 #[.agg #[.slice a p.length cap]] w1 fun e w' => e = .returned (.int .i64 (totalR p : Nat)) ∧ Below w1.heap.size w1 w') := fun w1 hb => rules_any p a cap w1 (hs.below PE.stays hb) hn hm
  have HOk0 : Hid (∀ i t, okR ((p.getD i E.zero).rules.getD t [])) := fun i t => okRs_at (okP_at ho i).2.2 t
  have HSm0 : Hid (∀ i, i < p.length → ∀ t, ((p.getD i E.zero).rules.getD t []).length ≤ 16777216) := fun i hi t => by
    by_cases ht : t < (p.getD i E.zero).rules.length
    · exact hm2 _ (entry_mem hi) _ (rule_mem ht)
    · rw [List.getD_eq_getElem?_getD, List.getElem?_eq_none (by omega)]; simp
  have HSt : Hid (∀ i, stepOk p i = ((i == 0 || befE (p.getD (i - 1) E.zero) (p.getD i E.zero)) && validE (p.getD i E.zero))) := fun i => rfl
  have HBd : Hid (∀ i, (0 ≤ (p.getD i E.zero).arch ∧ (p.getD i E.zero).arch ≤ 4294967295) ∧ (0 ≤ (p.getD i E.zero).nr ∧ (p.getD i E.zero).nr ≤ 4294967295)) := fun i => ⟨(okP_at ho i).1, (okP_at ho i).2.1⟩
  have HTl : Hid (totalR p ≤ 281474976710656) := by have := totalR_le hm; unfold Hid; omega
  have x0 := box1 w 31 (.slice a p.length cap)
  obtain ⟨V, hV⟩ : ∃ V, validP p = V := ⟨_, rfl⟩
  rw [hV] at HNo HYes ⊢
  clear hV hs hm hm2 ho
  generalize totalR p = tt at *
  generalize p.length = n at *
  go_enter Try.func14, Try.ntmps14
  go_wp2_with fail
  go_loopw [3] (fun i wr => ∃ k : Nat, k ≤ n ∧ i = .int .i64 k ∧ Hid (∀ j, j < k → stepOk p j = true) ∧ wr.cell? ⟨w.heap.size, 0, none⟩ = some (.slice a n cap) ∧ Below w.heap.size w wr) (fun i _ => n - (intOf i).toNat)
  case atStart => exact ⟨0, by omega, rfl, fun j hj => by omega, x0, B⟩
  case round =>
    clear B x0
    obtain ⟨k, hk, rfl, HJ0, x0, B⟩ := hrel
    rename World => W0
    by_cases hkn : k < n
    · have hkn' : (k : Int) < (n : Int) := by omega
      have HStep1 : Hid (stepOk p k = true → ∀ j, j < k + 1 → stepOk p j = true) := fun h j hj => by
        by_cases hjk : j = k
        · subst hjk; exact h
        · exact HJ0.out j (by omega)
      have HNo1 : Hid (stepOk p k = false → V = false) := HNo.out k hkn
      have HOk : Hid (∀ t, okR ((p.getD k E.zero).rules.getD t [])) := HOk0.out k
      have HSm : Hid (∀ t, ((p.getD k E.zero).rules.getD t []).length ≤ 16777216) := HSm0.out k hkn
      obtain ⟨b, o, rfl, hlt, c0, c1, ar, capr, c2, hsr⟩ := HP.out W0 B k hkn
      obtain ⟨⟨ar0, ar1⟩, ⟨nr0, nr1⟩⟩ := HBd.out k
      have HRl0 : Hid (∀ wr, Below W0.heap.size W0 wr → ∀ t, t < (p.getD k E.zero).rules.length → ∃ ab ao, ar = some ⟨ab, ao, none⟩ ∧ ab < wr.heap.size ∧ PR wr ab (ao + t * 1) ((p.getD k E.zero).rules.getD t [])) := fun wr hb t ht => (hsr.below PR.stays hb).at ht []
      have HVE : Hid (validE (p.getD k E.zero) = (decide (1 ≤ (p.getD k E.zero).rules.length) && decide ((p.getD k E.zero).rules.length ≤ 200) && (p.getD k E.zero).rules.all validR)) := rfl
      have HStk := HSt.out k
      have HAll : Hid ((∀ s, s < (p.getD k E.zero).rules.length → validR ((p.getD k E.zero).rules.getD s []) = true) → (p.getD k E.zero).rules.all validR = true) := fun h => (all_getD [] validR _).2 h
      have HAno : Hid (∀ s, s < (p.getD k E.zero).rules.length → validR ((p.getD k E.zero).rules.getD s []) = false → (p.getD k E.zero).rules.all validR = false) := fun s hs h => all_no hs h
      generalize p.getD k E.zero = e at *
      obtain ⟨arch, nr, rules⟩ := e
      simp only at c0 c1 c2 hsr ar0 ar1 nr0 nr1 HOk HSm HRl0 HVE HAll HAno
      generalize hmr : rules.length = m at *
      have HRl := HRl0
      clear HRl0 hsr
      by_cases hok : 1 ≤ m ∧ m ≤ 200
      · have HE : Hid (validE ⟨arch, nr, rules⟩ = rules.all validR) := by unfold Hid; rw [HVE.out]; simp [hok.1, hok.2]
        obtain ⟨hok1, hok2⟩ := hok
        have hm1 : (1 : Int) ≤ (m : Int) := by omega
        have hm2 : (m : Int) ≤ 200 := by omega
        by_cases hk0 : k = 0
        · have hz : ¬ (0 : Int) < (k : Int) := by omega
          have HGood : Hid ((∀ s, s < m → validR (rules.getD s []) = true) → ∀ j, j < k + 1 → stepOk p j = true) := fun h => HStep1.out (by rw [HStk, HE.out, HAll.out h]; simp [hk0])
          have HBad : Hid (∀ s, s < m → validR (rules.getD s []) = false → V = false) := fun s hs h => HNo1.out (by rw [HStk, HE.out, HAno.out s hs h]; simp)
          have Xe := BoxK.new W0 60 (.int .u32 arch) (.int .u32 nr) (.slice ar m capr)
          have Bx : Below W0.heap.size W0 (W0.alloc (.cells #[.int .u32 arch, .int .u32 nr, .slice ar m capr] 60)) := (Below.refl _ _).alloc (Nat.le_refl _) _
          have x1 := cell_step Bx x0
          clear hk0 HStep1 HNo1 HStk HE HAll HAno HVE HP HNo HYes HRs HOk0 HSm0 HSt HBd HTl HJ0 hmr
          go_wp2_with fail
          go_loopw [6] (fun j wr => ∃ t : Nat, t ≤ m ∧ j = .int .i64 t ∧ Hid (∀ s, s < t → validR (rules.getD s []) = true) ∧ BoxK wr W0.heap.size (.int .u32 arch) (.int .u32 nr) (.slice ar m capr) ∧ wr.cell? ⟨w.heap.size, 0, none⟩ = some (.slice (some ⟨b, o, none⟩) n cap) ∧ Below W0.heap.size W0 wr) (fun j _ => m - (intOf j).toNat)
          case atStart => exact ⟨0, by omega, rfl, fun s hs => by omega, Xe, x1, Bx⟩
          case round =>
            clear Xe x1 Bx
            obtain ⟨t, ht, rfl, HJ, Xe, x1, Bx⟩ := hrel
            have Xe1 := Xe
            obtain ⟨_, e0, e1, e2, _, _, _⟩ := Xe1
            by_cases htm : t < m
            · obtain ⟨ab, ao, har, hablt, a2, cap2, r0, hsr2⟩ := HRl.out wr Bx t htm
              have HRo : Hid (∀ w1, Below wr.heap.size wr w1 → Calls Try.prog 25 #[.agg #[.slice a2 (rules.getD t []).length cap2]] w1 fun e w' => e = .returned (.bool (validR (rules.getD t []))) ∧ Below w1.heap.size w1 w') := fun w1 hb => ruleOK_any _ a2 cap2 w1 (hsr2.below PK.stays hb) (HOk.out t) (HSm.out t)
              have HJ1 : Hid (validR (rules.getD t []) = true → ∀ s, s < t + 1 → validR (rules.getD s []) = true) := fun h s hs => by
                by_cases hst : s = t
                · subst hst; exact h
                · exact HJ.out s (by omega)
              have HF1 : Hid (validR (rules.getD t []) = false → V = false) := fun h => HBad.out t htm h
              rw [Nat.mul_one] at r0
              generalize validR (rules.getD t []) = Q at *
              generalize (rules.getD t []).length = len2 at *
              subst har
              have htm' : (t : Int) < (m : Int) := by omega
              clear HJ hsr2
              go_wp2_with fail
              refine (HRo.out _ (Below.refl _ _)).mono ?_
              rintro _ w5 ⟨rfl, hb5⟩
              have B5 := below_step hb5 Bx
              have x5 := cell_step hb5 x1
              have X5 := Xe.keep hb5
              clear hb5 e0 e1 e2 x1 r0 HRo Xe
              cases Q with
              | false =>
                have hVf : V = false := HF1.out (by first | rfl | trivial)
                subst hVf
                go_wp2
                go_ret
                exact ⟨rfl, below_step B5 B⟩
              | true =>
                have HJ2 : Hid (∀ s, s < t + 1 → validR (rules.getD s []) = true) := HJ1.out (by first | rfl | trivial)
                go_wp2
                go_roundw
                case rel => exact ⟨t + 1, by omega, by go_num, HJ2, X5, x5, B5⟩
                case measure => simp [intOf]; omega
            · have htm' : t = m := by omega
              subst htm'
              have HG : Hid (∀ j, j < k + 1 → stepOk p j = true) := HGood.out HJ.out
              have B6 := below_step Bx B
              go_wp2
              go_roundw
              case rel => exact ⟨k + 1, by omega, by go_num, HG, x1, B6⟩
              case measure => simp [intOf]; omega
        · have hz : (0 : Int) < (k : Int) := by omega
          have hk1 : ((k : Int) - 1).toNat = k - 1 := by omega
          have hkb : (k == 0) = false := by rw [beq_eq_false_iff_ne]; exact hk0
          rw [hkb, Bool.false_or] at HStk
          obtain ⟨b', o', hbo, _, d0, d1, ar', capr', d2, _⟩ := HP.out W0 B (k - 1) (by omega)
          cases hbo
          obtain ⟨⟨br0, br1⟩, ⟨bn0, bn1⟩⟩ := HBd.out (k - 1)
          generalize p.getD (k - 1) E.zero = d at *
          obtain ⟨arch', nr', rules'⟩ := d
          simp only at d0 d1 d2 br0 br1 bn0 bn1
          generalize rules'.length = m' at *
          have Xe := (BoxK.new W0 60 (.int .u32 arch) (.int .u32 nr) (.slice ar m capr)).alloc (.cells #[.int .u32 arch', .int .u32 nr', .slice ar' m' capr'] 60)
          have Bx : Below W0.heap.size W0 ((W0.alloc (.cells #[.int .u32 arch, .int .u32 nr, .slice ar m capr] 60)).alloc (.cells #[.int .u32 arch', .int .u32 nr', .slice ar' m' capr'] 60)) := ((Below.refl _ _).alloc (Nat.le_refl _) _).alloc (by simp) _
          have x1 := cell_step Bx x0
          have HBf : Hid (befE ⟨arch', nr', rules'⟩ ⟨arch, nr, rules⟩ = (decide (arch' < arch) || (arch' == arch && decide (nr' < nr)))) := rfl
          have hne0 := World.new_ne W0 _ d0
          have hnx := World.new_ne W0 _ x0
          have BE : Below W0.heap.size W0 (W0.alloc (.cells #[.int .u32 arch, .int .u32 nr, .slice ar m capr] 60)) := (Below.refl _ _).alloc (Nat.le_refl _) _
          have y0 := cell_step BE x0
          have dd0 := cell_step BE d0
          have dd1 := cell_step BE d1
          have dd2 := cell_step BE d2
          by_cases hlt1 : arch' < arch
          · have HGood : Hid ((∀ s, s < m → validR (rules.getD s []) = true) → ∀ j, j < k + 1 → stepOk p j = true) := fun h => HStep1.out (by rw [HStk, HE.out, HAll.out h, HBf.out]; simp [hlt1])
            have HBad : Hid (∀ s, s < m → validR (rules.getD s []) = false → V = false) := fun s hs h => HNo1.out (by rw [HStk, HE.out, HAno.out s hs h]; simp)
            have g1 : ¬ arch < arch' := by omega
            have g2 : (arch' == arch) = false := by rw [beq_eq_false_iff_ne]; omega
            clear hk0 hkb HStep1 HNo1 HStk HE HAll HAno HVE HP HNo HYes HRs HOk0 HSm0 HSt HBd HTl HJ0 hmr HBf
            go_wp2_with fail
            go_loopw [6] (fun j wr => ∃ t : Nat, t ≤ m ∧ j = .int .i64 t ∧ Hid (∀ s, s < t → validR (rules.getD s []) = true) ∧ BoxK wr W0.heap.size (.int .u32 arch) (.int .u32 nr) (.slice ar m capr) ∧ wr.cell? ⟨w.heap.size, 0, none⟩ = some (.slice (some ⟨b, o, none⟩) n cap) ∧ Below W0.heap.size W0 wr) (fun j _ => m - (intOf j).toNat)
            case atStart => exact ⟨0, by omega, rfl, fun s hs => by omega, Xe, x1, Bx⟩
            case round =>
              clear Xe x1 Bx
              obtain ⟨t, ht, rfl, HJ, Xe, x1, Bx⟩ := hrel
              have Xe1 := Xe
              obtain ⟨_, e0, e1, e2, _, _, _⟩ := Xe1
              by_cases htm : t < m
              · obtain ⟨ab, ao, har, hablt, a2, cap2, r0, hsr2⟩ := HRl.out wr Bx t htm
                have HRo : Hid (∀ w1, Below wr.heap.size wr w1 → Calls Try.prog 25 #[.agg #[.slice a2 (rules.getD t []).length cap2]] w1 fun e w' => e = .returned (.bool (validR (rules.getD t []))) ∧ Below w1.heap.size w1 w') := fun w1 hb => ruleOK_any _ a2 cap2 w1 (hsr2.below PK.stays hb) (HOk.out t) (HSm.out t)
                have HJ1 : Hid (validR (rules.getD t []) = true → ∀ s, s < t + 1 → validR (rules.getD s []) = true) := fun h s hs => by
                  by_cases hst : s = t
                  · subst hst; exact h
                  · exact HJ.out s (by omega)
                have HF1 : Hid (validR (rules.getD t []) = false → V = false) := fun h => HBad.out t htm h
                rw [Nat.mul_one] at r0
                generalize validR (rules.getD t []) = Q at *
                generalize (rules.getD t []).length = len2 at *
                subst har
                have htm' : (t : Int) < (m : Int) := by omega
                clear HJ hsr2
                go_wp2_with fail
                refine (HRo.out _ (Below.refl _ _)).mono ?_
                rintro _ w5 ⟨rfl, hb5⟩
                have B5 := below_step hb5 Bx
                have x5 := cell_step hb5 x1
                have X5 := Xe.keep hb5
                clear hb5 e0 e1 e2 x1 r0 HRo Xe
                cases Q with
                | false =>
                  have hVf : V = false := HF1.out (by first | rfl | trivial)
                  subst hVf
                  go_wp2
                  go_ret
                  exact ⟨rfl, below_step B5 B⟩
                | true =>
                  have HJ2 : Hid (∀ s, s < t + 1 → validR (rules.getD s []) = true) := HJ1.out (by first | rfl | trivial)
                  go_wp2
                  go_roundw
                  case rel => exact ⟨t + 1, by omega, by go_num, HJ2, X5, x5, B5⟩
                  case measure => simp [intOf]; omega
              · have htm' : t = m := by omega
                subst htm'
                have HG : Hid (∀ j, j < k + 1 → stepOk p j = true) := HGood.out HJ.out
                have B6 := below_step Bx B
                go_wp2
                go_roundw
                case rel => exact ⟨k + 1, by omega, by go_num, HG, x1, B6⟩
                case measure => simp [intOf]; omega
          by_cases heq : arch' = arch
          · subst heq
            by_cases hlt2 : nr' < nr
            · have HGood : Hid ((∀ s, s < m → validR (rules.getD s []) = true) → ∀ j, j < k + 1 → stepOk p j = true) := fun h => HStep1.out (by rw [HStk, HE.out, HAll.out h, HBf.out]; simp [hlt2])
              have HBad : Hid (∀ s, s < m → validR (rules.getD s []) = false → V = false) := fun s hs h => HNo1.out (by rw [HStk, HE.out, HAno.out s hs h]; simp)
              have g3 : ¬ nr ≤ nr' := by omega
              clear hk0 hkb HStep1 HNo1 HStk HE HAll HAno HVE HP HNo HYes HRs HOk0 HSm0 HSt HBd HTl HJ0 hmr HBf
              go_wp2_with fail
              go_loopw [6] (fun j wr => ∃ t : Nat, t ≤ m ∧ j = .int .i64 t ∧ Hid (∀ s, s < t → validR (rules.getD s []) = true) ∧ BoxK wr W0.heap.size (.int .u32 arch') (.int .u32 nr) (.slice ar m capr) ∧ wr.cell? ⟨w.heap.size, 0, none⟩ = some (.slice (some ⟨b, o, none⟩) n cap) ∧ Below W0.heap.size W0 wr) (fun j _ => m - (intOf j).toNat)
              case atStart => exact ⟨0, by omega, rfl, fun s hs => by omega, Xe, x1, Bx⟩
              case round =>
                clear Xe x1 Bx
                obtain ⟨t, ht, rfl, HJ, Xe, x1, Bx⟩ := hrel
                have Xe1 := Xe
                obtain ⟨_, e0, e1, e2, _, _, _⟩ := Xe1
                by_cases htm : t < m
                · obtain ⟨ab, ao, har, hablt, a2, cap2, r0, hsr2⟩ := HRl.out wr Bx t htm
                  have HRo : Hid (∀ w1, Below wr.heap.size wr w1 → Calls Try.prog 25 #[.agg #[.slice a2 (rules.getD t []).length cap2]] w1 fun e w' => e = .returned (.bool (validR (rules.getD t []))) ∧ Below w1.heap.size w1 w') := fun w1 hb => ruleOK_any _ a2 cap2 w1 (hsr2.below PK.stays hb) (HOk.out t) (HSm.out t)
                  have HJ1 : Hid (validR (rules.getD t []) = true → ∀ s, s < t + 1 → validR (rules.getD s []) = true) := fun h s hs => by
                    by_cases hst : s = t
                    · subst hst; exact h
                    · exact HJ.out s (by omega)
                  have HF1 : Hid (validR (rules.getD t []) = false → V = false) := fun h => HBad.out t htm h
                  rw [Nat.mul_one] at r0
                  generalize validR (rules.getD t []) = Q at *
                  generalize (rules.getD t []).length = len2 at *
                  subst har
                  have htm' : (t : Int) < (m : Int) := by omega
                  clear HJ hsr2
                  go_wp2_with fail
                  refine (HRo.out _ (Below.refl _ _)).mono ?_
                  rintro _ w5 ⟨rfl, hb5⟩
                  have B5 := below_step hb5 Bx
                  have x5 := cell_step hb5 x1
                  have X5 := Xe.keep hb5
                  clear hb5 e0 e1 e2 x1 r0 HRo Xe
                  cases Q with
                  | false =>
                    have hVf : V = false := HF1.out (by first | rfl | trivial)
                    subst hVf
                    go_wp2
                    go_ret
                    exact ⟨rfl, below_step B5 B⟩
                  | true =>
                    have HJ2 : Hid (∀ s, s < t + 1 → validR (rules.getD s []) = true) := HJ1.out (by first | rfl | trivial)
                    go_wp2
                    go_roundw
                    case rel => exact ⟨t + 1, by omega, by go_num, HJ2, X5, x5, B5⟩
                    case measure => simp [intOf]; omega
                · have htm' : t = m := by omega
                  subst htm'
                  have HG : Hid (∀ j, j < k + 1 → stepOk p j = true) := HGood.out HJ.out
                  have B6 := below_step Bx B
                  go_wp2
                  go_roundw
                  case rel => exact ⟨k + 1, by omega, by go_num, HG, x1, B6⟩
                  case measure => simp [intOf]; omega
            · have hVf : V = false := HNo1.out (by rw [HStk, HBf.out]; simp [hlt2])
              subst hVf
              have g3 : nr ≤ nr' := by omega
              have B6 := below_step Bx B
              clear hk0 hkb HStep1 HNo1 HStk HE HAll HAno HVE HP HNo HYes HRs HOk0 HSm0 HSt HBd HTl HJ0 hmr HBf HRl
              go_wp2
              go_ret
              exact ⟨rfl, B6⟩
          · have hVf : V = false := HNo1.out (by rw [HStk, HBf.out]; simp [hlt1, heq])
            subst hVf
            have g1 : arch < arch' := by omega
            have B6 := below_step Bx B
            clear hk0 hkb HStep1 HNo1 HStk HE HAll HAno HVE HP HNo HYes HRs HOk0 HSm0 HSt HBd HTl HJ0 hmr HBf HRl
            go_wp2
            go_ret
            exact ⟨rfl, B6⟩
      · have hVf : V = false := HNo1.out (by rw [HStk, HVE.out]; rcases (by omega : m < 1 ∨ 200 < m) with h | h <;> simp <;> omega)
        subst hVf
        have Bx : Below W0.heap.size W0 (W0.alloc (.cells #[.int .u32 arch, .int .u32 nr, .slice ar m capr] 60)) := (Below.refl _ _).alloc (Nat.le_refl _) _
        have B6 := below_step Bx B
        clear HStep1 HNo1 HStk HAll HAno HVE HP HNo HYes HRs HOk0 HSm0 HSt HBd HTl HJ0 hmr HRl
        by_cases hlo : m < 1
        · have g1 : (m : Int) < 1 := by omega
          go_wp2
          go_ret
          exact ⟨rfl, B6⟩
        · have g1 : ¬ (m : Int) < 1 := by omega
          have g2 : (200 : Int) < (m : Int) := by omega
          go_wp2
          go_ret
          exact ⟨rfl, B6⟩
    · have hk' : k = n := by omega
      subst hk'
      have hV := HYes.out HJ0.out
      subst hV
      have htl := HTl.out
      clear HYes HNo HP
      go_wp2_with fail
      refine (HRs.out _ B).mono ?_
      rintro _ w1 ⟨rfl, hb1⟩
      have B1 := below_step hb1 B
      go_wp2
      go_ret
      refine ⟨?_, B1⟩
      simp; omega
end Go.Proofs.Ytoopomjkapeknaa
namespace Go.Proofs.Ytoopomjkapeknaa
open Go.RowKit
set_option linter.unusedVariables false

/-- numbers that came in, or were made: nil or empty, or at an address -/
def UAt (w : World) (b o : Nat) (l : List Int) : Prop := ∀ i, i < l.length → w.cell? ⟨b, o + i, none⟩ = some (.int .u64 (l.getD i 0))

def USrc (w : World) (a : Option Addr) (l : List Int) : Prop := l = [] ∨ ∃ b o, a = some ⟨b, o, none⟩ ∧ b < w.heap.size ∧ UAt w b o l

theorem USrc.below {w w' : World} {a : Option Addr} {l : List Int} (h : USrc w a l) (hb : Below w.heap.size w w') : USrc w' a l := by
  rcases h with h | ⟨b, o, ha, hlt, hc⟩
  · exact .inl h
  · exact .inr ⟨b, o, ha, Nat.lt_of_lt_of_le hlt hb.size, fun i hi => (hb.cell (p := ⟨b, _, none⟩) hlt).trans (hc i hi)⟩

theorem info61 : (Try.prog.info? 91).map (fun i => (i.zero, i.size, i.bytes)) = some (some (.int .u64 0), 1, 8) := by kernel_rfl

/-- an own row of numbers -/
abbrev ownsU (w : World) (base : Nat) (v : Value) (l : List Int) : Prop := w.ownsRow base 91 1 v l.length (l.map (Value.int .u64))

theorem ownsU_src {w : World} {base : Nat} {v : Value} {l : List Int} (h : ownsU w base v l) : ∃ a cap, v = .slice a l.length cap ∧ USrc w a l := by
  obtain ⟨_, h | ⟨g, cap, cur, rfl, hb, hg, hn, hm, hs, hx⟩⟩ := h
  · obtain ⟨rfl, h0⟩ := h
    have : l = [] := List.eq_nil_of_length_eq_zero h0
    subst this
    exact ⟨none, 0, rfl, .inl rfl⟩
  · refine ⟨_, _, rfl, .inr ⟨g, 0, rfl, (Array.getElem?_eq_some_iff.1 hg).1, fun i hi => ?_⟩⟩
    have e : (cur.toList.take (l.length * 1))[i]? = some (Value.int .u64 (l.getD i 0)) := by
      rw [hx, List.getElem?_map, List.getElem?_eq_getElem hi, List.getD_eq_getElem?_getD, List.getElem?_eq_getElem hi]; rfl
    rw [List.getElem?_take, if_pos (by omega)] at e
    simp only [World.cell?, hg, Nat.zero_add]
    simpa using e

theorem ownsU_kept {w w' : World} {B : Nat} {v : Value} {l : List Int} {row : Option Nat} (h : ownsU w B v l) (hg : w.grownBy w' row) (hne : ∀ q, v.ownBlock = some q → some q ≠ row) : ownsU w' B v l := by
  refine World.ownsRow.kept h hg ?_
  cases hv : v.ownBlock with
  | none => exact .inl rfl
  | some q => exact .inr (hne q hv)

/-- the cells of the row D from number 0 to j hold the marks k, k + 1, .. -/
def MarksU (w : World) (D N : Nat) (k : Int) (j : Nat) : Prop := ∃ f, w.rowIs D 91 N f ∧ ∀ i, i < j → f i = .int .u64 (k + i)

theorem MarksU.step {w : World} {D N j : Nat} {k : Int} (h : MarksU w D N k j) : MarksU (w.setCell ⟨D, j, none⟩ (.int .u64 (k + j))) D N k (j + 1) := by
  obtain ⟨f, hr, hf⟩ := h
  refine ⟨_, hr.set _ _, fun i hi => ?_⟩
  by_cases e : i = j
  · rw [if_pos e, e]
  · rw [if_neg e]; exact hf i (by omega)

theorem MarksU.own {w : World} {D N j : Nat} {k : Int} (h : MarksU w D N k j) (i : Nat) (hi : i < N) : ∃ v, w.cell? ⟨D, i, none⟩ = some v ∧ w.frozen? ⟨D, i, none⟩ = false := by
  obtain ⟨f, hr, _⟩ := h
  exact ⟨_, hr.cell hi, hr.frozen i⟩

theorem ownsU_marks {w : World} {base g n cap : Nat} {l : List Int} (h : ownsU w base (.slice (some ⟨g, 0, none⟩) n cap) l) (k : Int) : n = l.length ∧ n ≤ cap ∧ base ≤ g ∧ MarksU w g cap k 0 := by
  obtain ⟨_, h | ⟨g', cap', cur, hv, hb, hg, hn, hm, hs, hx⟩⟩ := h
  · simp at h
  · simp only [Value.slice.injEq, Option.some.injEq, Addr.mk.injEq] at hv
    obtain ⟨⟨rfl, _⟩, rfl, rfl⟩ := hv
    refine ⟨rfl, hn, hb, fun i => cur.getD i undef, ⟨cur, hg, by omega, fun i hi => ?_⟩, fun i hi => by omega⟩
    simp [show i < cur.size by omega]

/-- the marks k, k + 1, .. stand in the n bytes of v -/
def MarkedU (w : World) (v : Value) (n : Nat) (k : Int) : Prop := (v = .slice none 0 0 ∧ n = 0) ∨ ∃ g cap, v = .slice (some ⟨g, 0, none⟩) n cap ∧ n ≤ cap ∧ MarksU w g cap k n

/-- an own row of numbers, laid by make and written cell by cell -/
def UptoU (w : World) (D n : Nat) (l : List Int) (k : Nat) : Prop := ∃ f, w.rowIs D 91 n f ∧ ∀ j, j < k → f j = .int .u64 (l.getD j 0)

theorem UptoU.step {w : World} {D n k : Nat} {l : List Int} (h : UptoU w D n l k) : UptoU (w.setCell ⟨D, k, none⟩ (.int .u64 (l.getD k 0))) D n l (k + 1) := by
  obtain ⟨f, hr, hf⟩ := h
  refine ⟨_, hr.set _ _, fun j hj => ?_⟩
  by_cases e : j = k
  · rw [if_pos e, e]
  · rw [if_neg e]; exact hf j (by omega)

theorem UptoU.own {w : World} {D n k : Nat} {l : List Int} (h : UptoU w D n l k) (j : Nat) (hj : j < n) : ∃ v, w.cell? ⟨D, j, none⟩ = some v ∧ w.frozen? ⟨D, j, none⟩ = false := by
  obtain ⟨f, hr, _⟩ := h
  exact ⟨_, hr.cell hj, hr.frozen j⟩

theorem UptoU.ownsU {w : World} {D : Nat} {l : List Int} (h : UptoU w D l.length l l.length) (hm : l.length ≤ maxLen) : ownsU w D (.slice (some ⟨D, 0, none⟩) l.length l.length) l := by
  obtain ⟨f, ⟨c, hc, hs, hcf⟩, hf⟩ := h
  refine ⟨by simp, .inr ⟨D, l.length, c, rfl, Nat.le_refl _, hc, Nat.le_refl _, hm, by omega, ?_⟩⟩
  apply List.ext_getElem?
  intro i
  by_cases hi : i < l.length
  · rw [List.getElem?_take, if_pos (by omega), Array.getElem?_toList, hcf i hi, hf i hi, List.getElem?_map, List.getElem?_eq_getElem hi, List.getD_eq_getElem?_getD, List.getElem?_eq_getElem hi]; rfl
  · rw [List.getElem?_take, if_neg (by omega), List.getElem?_map, List.getElem?_eq_none (by omega)]; rfl

theorem ownsU_below {w w1 : World} {base : Nat} {v : Value} {l : List Int} (h : ownsU w base v l) (hb : Below w.heap.size w w1) : ownsU w1 base v l :=
  World.ownsRow.kept (row := none) h ⟨hb.os, hb.tape, hb.output, hb.size, fun k hk _ => hb.block k hk⟩ (by cases v.ownBlock <;> simp)

/-- an own row that is not empty lies at an address -/
theorem ownsU_at {w : World} {base : Nat} {v : Value} {l : List Int} (h : ownsU w base v l) (h0 : 0 < l.length) :
    ∃ g cap, v = .slice (some ⟨g, 0, none⟩) l.length cap ∧ base ≤ g ∧ ∀ j u, (l.map (Value.int .u64))[j]? = some u → w.cell? ((⟨g, 0, none⟩ : Addr).add j) = some u := by
  have h' := h
  obtain ⟨_, h | ⟨g, cap, cur, rfl, hb, hg, hn, hm, hs, hx⟩⟩ := h
  · omega
  · exact ⟨g, cap, rfl, hb, h'.cells rfl⟩

theorem longs_oneCell (l : List Int) : ∀ u ∈ l.map (Value.int .u64), u.oneCell' = true := ints_oneCell .u64 l
end Go.Proofs.Ytoopomjkapeknaa
namespace Go.Proofs.Ytoopomjkapeknaa
open Go.RowKit
set_option linter.unusedVariables false

/-- the value of one call, its arguments in v -/
abbrev callV (c : C) (v : Value) : Value := .agg #[.int .u32 c.arch, .int .u32 c.nr, v]

theorem ownsU_set {w : World} {B D j : Nat} {v x : Value} {l : List Int} (h : ownsU w B v l) (hne : ∀ q, v.ownBlock = some q → q ≠ D) : ownsU (w.setCell ⟨D, j, none⟩ x) B v l :=
  ownsU_kept h (grown_setCell (World.grownBy.refl _ _) j x) (fun q hq e => hne q hq (by simpa using e))
theorem ownsU_mono {w : World} {B B' : Nat} {v : Value} {l : List Int} (h : ownsU w B v l) (hb : B' ≤ B) : ownsU w B' v l := by
  obtain ⟨h0, h | ⟨g, cap, cur, rfl, hb', hr⟩⟩ := h
  · exact ⟨h0, .inl h⟩
  · exact ⟨h0, .inr ⟨g, cap, cur, rfl, by omega, hr⟩⟩
/-- the three cells of a box -/
structure Box3 (w : World) (g : Nat) (x y z : Value) : Prop where
  lt : g < w.heap.size
  c0 : w.cell? ⟨g, 0, none⟩ = some x
  c1 : w.cell? ⟨g, 1, none⟩ = some y
  c2 : w.cell? ⟨g, 2, none⟩ = some z
  f0 : w.frozen? ⟨g, 0, none⟩ = false
  f1 : w.frozen? ⟨g, 1, none⟩ = false
  f2 : w.frozen? ⟨g, 2, none⟩ = false
theorem Box3.keep {w w1 : World} {g : Nat} {x y z : Value} (h : Box3 w g x y z) (hb : Below w.heap.size w w1) : Box3 w1 g x y z :=
  ⟨Nat.lt_of_lt_of_le h.lt hb.size, (hb.cell (p := ⟨g, _, none⟩) h.lt).trans h.c0, (hb.cell (p := ⟨g, _, none⟩) h.lt).trans h.c1, (hb.cell (p := ⟨g, _, none⟩) h.lt).trans h.c2,
    (hb.frozen (p := ⟨g, _, none⟩) h.lt).trans h.f0, (hb.frozen (p := ⟨g, _, none⟩) h.lt).trans h.f1, (hb.frozen (p := ⟨g, _, none⟩) h.lt).trans h.f2⟩
theorem Box3.new (w : World) (t : TypeId) (x y z : Value) : Box3 (w.alloc (.cells #[x, y, z] t)) w.heap.size x y z :=
  ⟨by simp, by simp, by simp, by simp, by simp, by simp, by simp⟩
theorem Box3.alloc {w : World} {g : Nat} {x y z : Value} (h : Box3 w g x y z) (o : Obj) : Box3 (w.alloc o) g x y z := h.keep ((Below.refl _ _).alloc (Nat.le_refl _) o)

end Go.Proofs.Ytoopomjkapeknaa
namespace Go.Proofs.Ytoopomjkapeknaa
open Go.RowKit
set_option linter.unusedVariables false

/-- calls at an address, each with its arguments where its third cell says -/
def CAt (w : World) (b o : Nat) (cs : List C) : Prop :=
  ∀ i, i < cs.length → w.cell? ⟨b, o + i * 3, none⟩ = some (.int .u32 (cs.getD i C.zero).arch) ∧ w.cell? ⟨b, o + i * 3 + 1, none⟩ = some (.int .u32 (cs.getD i C.zero).nr) ∧
    ∃ a cap, w.cell? ⟨b, o + i * 3 + 2, none⟩ = some (.slice a (cs.getD i C.zero).args.length cap) ∧ USrc w a (cs.getD i C.zero).args
/-- calls that came in, or were made: nil or empty, or at an address -/
def CSrc (w : World) (a : Option Addr) (cs : List C) : Prop := cs = [] ∨ ∃ b o, a = some ⟨b, o, none⟩ ∧ b < w.heap.size ∧ CAt w b o cs

theorem CAt.below {w w' : World} {b o : Nat} {cs : List C} (h : CAt w b o cs) (hlt : b < w.heap.size) (hb : Below w.heap.size w w') : CAt w' b o cs := by
  intro i hi
  obtain ⟨c0, c1, a, cap, c2, hs⟩ := h i hi
  exact ⟨(hb.cell (p := ⟨b, _, none⟩) hlt).trans c0, (hb.cell (p := ⟨b, _, none⟩) hlt).trans c1, a, cap, (hb.cell (p := ⟨b, _, none⟩) hlt).trans c2, hs.below hb⟩
theorem CSrc.below {w w' : World} {a : Option Addr} {cs : List C} (h : CSrc w a cs) (hb : Below w.heap.size w w') : CSrc w' a cs := by
  rcases h with h | ⟨b, o, ha, hlt, hc⟩
  · exact .inl h
  · exact .inr ⟨b, o, ha, Nat.lt_of_lt_of_le hlt hb.size, hc.below hlt hb⟩
end Go.Proofs.Ytoopomjkapeknaa
