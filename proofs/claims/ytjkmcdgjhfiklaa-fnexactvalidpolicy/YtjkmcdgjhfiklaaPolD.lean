/-
  CONTRACTS of the program's ValidPolicy.
-/
import Derived.Test.YtjkmcdgjhfiklaaPolC
namespace Go.Proofs.Ytjkmcdgjhfiklaa
open Go.RowKit
set_option linter.unusedVariables false

set_option maxRecDepth 100000 in
set_option maxHeartbeats 4000000 in
theorem implValidP_any (p : List E) (a : Option Addr) (cap : Nat) (w : World) (hs : LSrc 3 PE w a p) (ho : okP p) (hn : p.length ≤ 16777216) (hm : ∀ e ∈ p, e.rules.length ≤ 16777216) (hm2 : ∀ e ∈ p, ∀ r ∈ e.rules, r.length ≤ 16777216) :
    Calls Try.prog 20 #[.agg #[.slice a p.length cap]] w fun e w' => e = .returned (.bool (validP p)) ∧ Below w.heap.size w w' := by
  have B : Below w.heap.size w (w.alloc (.cells #[.slice a p.length cap] 42)) := (Below.refl _ _).alloc (Nat.le_refl _) _
  have HP : Hid (∀ wr, Below w.heap.size w wr → ∀ i, i < p.length → ∃ b o, a = some ⟨b, o, none⟩ ∧ b < wr.heap.size ∧ PE wr b (o + i * 3) (p.getD i E.zero)) := fun wr hB i hi => (hs.below PE.stays hB).at hi E.zero
  have HNo : Hid (∀ i, i < p.length → stepOk p i = false → validP p = false) := fun i hi h => validP_no hi h
  have HYes : Hid ((∀ i, i < p.length → stepOk p i = true) → validP p = decide (totalR p ≤ 1000)) := fun h => validP_yes h
  have HOk0 : Hid (∀ i, okRs (p.getD i E.zero).rules) := fun i => (okP_at ho i).2.2
  have HSm0 : Hid (∀ i, i < p.length → (p.getD i E.zero).rules.length ≤ 16777216 ∧ ∀ r ∈ (p.getD i E.zero).rules, r.length ≤ 16777216) := fun i hi => ⟨hm _ (entry_mem hi), hm2 _ (entry_mem hi)⟩
  have HSt : Hid (∀ i, stepOk p i = ((i == 0 || befE (p.getD (i - 1) E.zero) (p.getD i E.zero)) && validE (p.getD i E.zero))) := fun i => rfl
  have HBd : Hid (∀ i, (0 ≤ (p.getD i E.zero).arch ∧ (p.getD i E.zero).arch ≤ 4294967295) ∧ (0 ≤ (p.getD i E.zero).nr ∧ (p.getD i E.zero).nr ≤ 4294967295)) := fun i => ⟨(okP_at ho i).1, (okP_at ho i).2.1⟩
  have HT : Hid (∀ i, i < p.length → totalR (p.take (i + 1)) = totalR (p.take i) + (p.getD i E.zero).rules.length) := fun i hi => totalR_take hi
  have HA : Hid (totalR (p.take p.length) = totalR p) := by show _ = _; rw [List.take_length]
  have HL : Hid (∀ i, i < p.length → totalR (p.take i) + (p.getD i E.zero).rules.length ≤ 281474976710656) := fun i hi => by
    rw [← totalR_take hi]
    have := totalR_le (p := p.take (i + 1)) (fun e he => hm e (List.mem_of_mem_take he))
    have h2 : (p.take (i + 1)).length ≤ p.length := by simp; omega
    omega
  have HTl : Hid (totalR p ≤ 281474976710656) := by have := totalR_le hm; unfold Hid; omega
  have x0 := box1 w 42 (.slice a p.length cap)
  obtain ⟨V, hV⟩ : ∃ V, validP p = V := ⟨_, rfl⟩
  rw [hV] at HNo HYes ⊢
  clear hV hs hm hm2 ho
  generalize totalR p = tt at *
  generalize p.length = n at *
  go_enter Try.func20, Try.ntmps20
  go_wp2_with fail
  go_loopw [3, 9] (fun q i wr => ∃ k : Nat, k ≤ n ∧ i = .int .i64 k ∧ q = .int .i64 (totalR (p.take k) : Nat) ∧ Hid (∀ j, j < k → stepOk p j = true) ∧ wr.cell? ⟨w.heap.size, 0, none⟩ = some (.slice a n cap) ∧ Below w.heap.size w wr) (fun _ i _ => n - (intOf i).toNat)
  case atStart => exact ⟨0, by omega, rfl, by simp [totalR], fun j hj => by omega, x0, B⟩
  case round =>
    clear B x0
    obtain ⟨k, hk, rfl, rfl, HJ0, x0, B⟩ := hrel
    rename World => W0
    by_cases hkn : k < n
    · have hkn' : (k : Int) < (n : Int) := by omega
      have HStep1 : Hid (stepOk p k = true → ∀ j, j < k + 1 → stepOk p j = true) := fun h j hj => by
        by_cases hjk : j = k
        · subst hjk; exact h
        · exact HJ0.out j (by omega)
      have HNo1 : Hid (stepOk p k = false → V = false) := HNo.out k hkn
      have hl := HL.out k hkn
      have HT1 : Hid (totalR (p.take (k + 1)) = totalR (p.take k) + (p.getD k E.zero).rules.length) := HT.out k hkn
      have HStk := HSt.out k
      obtain ⟨hsm1, hsm2⟩ := HSm0.out k hkn
      have hokk := HOk0.out k
      obtain ⟨b, o, rfl, hlt, c0, c1, ar, capr, c2, hsr⟩ := HP.out W0 B k hkn
      obtain ⟨hb1, hb2⟩ := HBd.out k
      generalize totalR (p.take k) = T0 at *
      generalize p.getD k E.zero = e at *
      obtain ⟨arch, nr, rules⟩ := e
      simp only at c0 c1 c2 hsr hb1 hb2 hsm1 hsm2 hokk HT1 hl
      have HIV : Hid (∀ w1, Below W0.heap.size W0 w1 → Calls Try.prog 52 #[.agg #[.int .u32 arch, .int .u32 nr, .slice ar rules.length capr]] w1 fun x w' => x = .returned (.bool (validE ⟨arch, nr, rules⟩)) ∧ Below w1.heap.size w1 w') := fun w1 hb => isValidEntry_any ⟨arch, nr, rules⟩ ar capr w1 (hsr.below PR.stays hb) hokk hsm1 hsm2
      clear hsr hokk hsm2
      generalize hQ : validE ⟨arch, nr, rules⟩ = Q at *
      generalize rules.length = m at *
      have BE : Below W0.heap.size W0 (W0.alloc (.cells #[.int .u32 arch, .int .u32 nr, .slice ar m capr] 81)) := (Below.refl _ _).alloc (Nat.le_refl _) _
      have Xe := (BoxK.new W0 81 (.int .u32 arch) (.int .u32 nr) (.slice ar m capr))
      have y0 := cell_step BE x0
      have hnx := World.new_ne W0 _ x0
      by_cases hk0 : k = 0
      · have hz : decide ((0 : Int) < (k : Int)) = false := decide_eq_false (by omega)
        have hkb : (k == 0) = true := by rw [beq_iff_eq]; exact hk0
        rw [hkb, Bool.true_or, Bool.true_and] at HStk
        have hzn : decide (0 < k) = false := decide_eq_false (by omega)
        clear hz hk0 hkb HP HNo HYes HOk0 HSm0 HSt HBd HT HA HL HTl HJ0
        go_wp2_with fail
        have hzm : decide (0 < k) = false := hzn
        have HBq : Hid (∀ q, Below W0.heap.size W0 ((W0.alloc (.cells #[.int .u32 arch, .int .u32 nr, .slice ar m capr] 81)).drewN q)) := fun q => below_drewN BE q
        have HXq : Hid (∀ q, BoxK ((W0.alloc (.cells #[.int .u32 arch, .int .u32 nr, .slice ar m capr] 81)).drewN q) W0.heap.size (.int .u32 arch) (.int .u32 nr) (.slice ar m capr)) := fun q => Xe.keep (below_drewN (Below.refl _ _) q)
        have Hxq : Hid (∀ q, ((W0.alloc (.cells #[.int .u32 arch, .int .u32 nr, .slice ar m capr] 81)).drewN q).cell? ⟨w.heap.size, 0, none⟩ = some (.slice (some ⟨b, o, none⟩) n cap)) := fun q => cell_step (below_drewN (Below.refl _ _) q) y0
        clear BE Xe y0
        go_quiet (fail)
        go_wp2_with fail
        refine (HIV.out _ (HBq.out _)).mono ?_
        rintro _ w6 ⟨rfl, hb6⟩
        have X6 := (HXq.out _).keep hb6
        have x6 := cell_step hb6 (Hxq.out _)
        have B6 := below_step (below_step hb6 (HBq.out _)) B
        clear hb6 HBq HXq Hxq HIV
        cases Q with
        | false =>
          have hVf : V = false := HNo1.out HStk
          subst hVf
          go_wp2
          go_ret
          exact ⟨rfl, B6⟩
        | true =>
          have HG : Hid (∀ j, j < k + 1 → stepOk p j = true) := HStep1.out HStk
          obtain ⟨_, e0, e1, e2, _, _, _⟩ := X6
          go_wp2
          go_roundw
          case rel => exact ⟨k + 1, by omega, by go_num, by rw [HT1.out]; simp, HG, x6, B6⟩
          case measure => simp [intOf]; omega
      · have hz : decide ((0 : Int) < (k : Int)) = true := decide_eq_true (by omega)
        have hz' : (0 : Int) < (k : Int) := by omega
        have hw1 : IntKind.i64.wrap ((k : Int) - 1) = ((k - 1 : Nat) : Int) := by simp [IntKind.wrap, IntKind.bits, IntKind.signed]; omega
        have hk1 : ((k - 1 : Nat) : Int) < (n : Int) := by omega
        have hk2 : k - 1 < n := by omega
        have hkb : (k == 0) = false := by rw [beq_eq_false_iff_ne]; exact hk0
        rw [hkb, Bool.false_or] at HStk
        obtain ⟨b', o', hbo, _, d0, d1, ar', capr', d2, _⟩ := HP.out W0 B (k - 1) (by omega)
        cases hbo
        obtain ⟨hb3, hb4⟩ := HBd.out (k - 1)
        generalize p.getD (k - 1) E.zero = d at *
        obtain ⟨arch', nr', rules'⟩ := d
        simp only at d0 d1 d2 hb3 hb4
        generalize rules'.length = m' at *
        have HBf : Hid (befE ⟨arch', nr', rules'⟩ ⟨arch, nr, rules⟩ = decide (or2 (ordI arch' arch) (ordI nr' nr) < 0)) := bef_or2 _ _
        rw [HBf.out] at HStk
        have HCB : Hid (∀ w1, Calls Try.prog 51 #[.agg #[.int .u32 arch', .int .u32 nr', .slice ar' m' capr'], .agg #[.int .u32 arch, .int .u32 nr, .slice ar m capr]] w1 fun e w' => e = .returned (.bool (decide (or2 (ordI arch' arch) (ordI nr' nr) < 0))) ∧ Below w1.heap.size w1 w') := fun w1 => comesBefore_any arch' nr' arch nr ar' ar m' capr' m capr w1 hb3 hb4 hb1 hb2
        generalize decide (or2 (ordI arch' arch) (ordI nr' nr) < 0) = P at *
        have SK : Hid (∀ wa wb, Below wa.heap.size wa wb → (Below W0.heap.size W0 wa ∧ wa.cell? ⟨w.heap.size, 0, none⟩ = some (.slice (some ⟨b, o, none⟩) n cap) ∧ wa.cell? ⟨b, o + (k - 1) * 3, none⟩ = some (.int .u32 arch') ∧ wa.cell? ⟨b, o + (k - 1) * 3 + 1, none⟩ = some (.int .u32 nr') ∧ wa.cell? ⟨b, o + (k - 1) * 3 + 2, none⟩ = some (.slice ar' m' capr') ∧ wa.cell? ⟨W0.heap.size, 0, none⟩ = some (.int .u32 arch) ∧ wa.cell? ⟨W0.heap.size, 1, none⟩ = some (.int .u32 nr) ∧ wa.cell? ⟨W0.heap.size, 2, none⟩ = some (.slice ar m capr)) → (Below W0.heap.size W0 wb ∧ wb.cell? ⟨w.heap.size, 0, none⟩ = some (.slice (some ⟨b, o, none⟩) n cap) ∧ wb.cell? ⟨b, o + (k - 1) * 3, none⟩ = some (.int .u32 arch') ∧ wb.cell? ⟨b, o + (k - 1) * 3 + 1, none⟩ = some (.int .u32 nr') ∧ wb.cell? ⟨b, o + (k - 1) * 3 + 2, none⟩ = some (.slice ar' m' capr') ∧ wb.cell? ⟨W0.heap.size, 0, none⟩ = some (.int .u32 arch) ∧ wb.cell? ⟨W0.heap.size, 1, none⟩ = some (.int .u32 nr) ∧ wb.cell? ⟨W0.heap.size, 2, none⟩ = some (.slice ar m capr))) := fun wa wb hb ⟨s, s0, s1, s2, s3, s4, s5, s6⟩ =>
          ⟨below_step hb s, cell_step hb s0, cell_step hb s1, cell_step hb s2, cell_step hb s3, cell_step hb s4, cell_step hb s5, cell_step hb s6⟩
        have hS0 : Below W0.heap.size W0 (W0.alloc (.cells #[.int .u32 arch, .int .u32 nr, .slice ar m capr] 81)).drew ∧ (W0.alloc (.cells #[.int .u32 arch, .int .u32 nr, .slice ar m capr] 81)).drew.cell? ⟨w.heap.size, 0, none⟩ = some (.slice (some ⟨b, o, none⟩) n cap) ∧ (W0.alloc (.cells #[.int .u32 arch, .int .u32 nr, .slice ar m capr] 81)).drew.cell? ⟨b, o + (k - 1) * 3, none⟩ = some (.int .u32 arch') ∧ (W0.alloc (.cells #[.int .u32 arch, .int .u32 nr, .slice ar m capr] 81)).drew.cell? ⟨b, o + (k - 1) * 3 + 1, none⟩ = some (.int .u32 nr') ∧ (W0.alloc (.cells #[.int .u32 arch, .int .u32 nr, .slice ar m capr] 81)).drew.cell? ⟨b, o + (k - 1) * 3 + 2, none⟩ = some (.slice ar' m' capr') ∧ (W0.alloc (.cells #[.int .u32 arch, .int .u32 nr, .slice ar m capr] 81)).drew.cell? ⟨W0.heap.size, 0, none⟩ = some (.int .u32 arch) ∧ (W0.alloc (.cells #[.int .u32 arch, .int .u32 nr, .slice ar m capr] 81)).drew.cell? ⟨W0.heap.size, 1, none⟩ = some (.int .u32 nr) ∧ (W0.alloc (.cells #[.int .u32 arch, .int .u32 nr, .slice ar m capr] 81)).drew.cell? ⟨W0.heap.size, 2, none⟩ = some (.slice ar m capr) := by
          obtain ⟨_, f0, f1, f2, _, _, _⟩ := Xe
          have hd : Below (W0.alloc (.cells #[.int .u32 arch, .int .u32 nr, .slice ar m capr] 81)).heap.size (W0.alloc (.cells #[.int .u32 arch, .int .u32 nr, .slice ar m capr] 81)) (W0.alloc (.cells #[.int .u32 arch, .int .u32 nr, .slice ar m capr] 81)).drew := (Below.refl _ _).drew
          exact SK.out _ _ hd ⟨BE, y0, cell_step BE d0, cell_step BE d1, cell_step BE d2, f0, f1, f2⟩
        have hkp : 0 < k := by omega
        clear hz hz' hk0 hkb HP HNo HYes HOk0 HSm0 HSt HBd HT HA HL HTl HJ0 HBf d0 d1 d2 Xe
        go_wp2_with fail
        have hzm : decide (0 < k) = true := decide_eq_true hkp
        go_region_held3 (fun w' => Below W0.heap.size W0 w' ∧ w'.cell? ⟨w.heap.size, 0, none⟩ = some (.slice (some ⟨b, o, none⟩) n cap) ∧ w'.cell? ⟨b, o + (k - 1) * 3, none⟩ = some (.int .u32 arch') ∧ w'.cell? ⟨b, o + (k - 1) * 3 + 1, none⟩ = some (.int .u32 nr') ∧ w'.cell? ⟨b, o + (k - 1) * 3 + 2, none⟩ = some (.slice ar' m' capr') ∧ w'.cell? ⟨W0.heap.size, 0, none⟩ = some (.int .u32 arch) ∧ w'.cell? ⟨W0.heap.size, 1, none⟩ = some (.int .u32 nr) ∧ w'.cell? ⟨W0.heap.size, 2, none⟩ = some (.slice ar m capr))
          (assumption)
          ((go_at_call 51; refine (HCB.out _).mono ?_; rintro e wq ⟨rfl, hbq⟩; have hS1 := SK.out _ _ hbq (by assumption)))
        cases P with
        | false =>
          have hVf : V = false := HNo1.out (by rw [HStk]; simp)
          subst hVf
          have B6 := below_step hS1.1 B
          go_wp2
          go_ret
          exact ⟨rfl, B6⟩
        | true =>
          rw [Bool.true_and] at HStk
          obtain ⟨Bq, xq, _, _, _, e0, e1, e2⟩ := hS1
          clear hS0 SK HCB
          go_wp2_with fail
          refine (HIV.out _ Bq).mono ?_
          rintro _ w6 ⟨rfl, hb6⟩
          have f0 := cell_step hb6 e0
          have f1 := cell_step hb6 e1
          have f2 := cell_step hb6 e2
          have x6 := cell_step hb6 xq
          have B6 := below_step (below_step hb6 Bq) B
          clear hb6 xq Bq e0 e1 e2 HIV
          cases Q with
          | false =>
            have hVf : V = false := HNo1.out HStk
            subst hVf
            go_wp2
            go_ret
            exact ⟨rfl, B6⟩
          | true =>
            have HG : Hid (∀ j, j < k + 1 → stepOk p j = true) := HStep1.out HStk
            go_wp2
            go_roundw
            case rel => exact ⟨k + 1, by omega, by go_num, by rw [HT1.out]; simp, HG, x6, B6⟩
            case measure => simp [intOf]; omega
    · have hk' : k = n := by omega
      subst hk'
      have hV := HYes.out HJ0.out
      subst hV
      have htl := HTl.out
      have hA := HA.out
      rw [hA]
      clear HYes HNo HP
      go_wp2
      go_ret
      refine ⟨?_, B⟩
      simp; omega
end Go.Proofs.Ytjkmcdgjhfiklaa
