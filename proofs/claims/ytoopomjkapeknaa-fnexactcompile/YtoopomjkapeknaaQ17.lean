/-
  PolC, PolD, AsmF, AsmG
-/
import Derived.Test.YtoopomjkapeknaaQ16
import Derived.Deep.RegionHeld3
import Derived.Test.YtoopomjkapeknaaQ11
import Derived.Deep.Onto
import Derived.RangeFuncWrites
import Derived.RangeFuncCalls
import Derived.Maps.OwnSet
import Derived.Deep.AppendLies
import Derived.Deep.RegionLaw
namespace Go.Proofs.Ytoopomjkapeknaa
open Go.RowKit
set_option linter.unusedVariables false

def or2 (x y : Int) : Int := if x ≠ 0 then x else y
def get2 (x y : Int) (j : Nat) : Int := if j = 0 then x else y

set_option maxRecDepth 100000 in
set_option maxHeartbeats 1000000 in
theorem cmpOr2_any (g : Nat) (x y : Int) (w : World) (c : ∀ j, j < 2 → w.cell? ⟨g, j, none⟩ = some (.int .i64 (get2 x y j))) :
    Calls Try.prog 52 #[.slice (some ⟨g, 0, none⟩) 2 2] w fun e w' => e = .returned (.int .i64 (or2 x y)) ∧ w' = w := by
  have HC : Hid (∀ j, j < 2 → w.cell? ⟨g, j, none⟩ = some (.int .i64 (get2 x y j))) := c
  have H1 : Hid (∀ j, j < 2 → (∀ i, i < j → get2 x y i = 0) → get2 x y j ≠ 0 → or2 x y = get2 x y j) := by
    intro j hj h0 h1
    have : j = 0 ∨ j = 1 := by omega
    rcases this with rfl | rfl
    · simp only [get2, if_true] at h1 ⊢; unfold or2; rw [if_pos h1]
    · have a0 := h0 0 (by omega)
      simp [get2] at h1 a0 ⊢; unfold or2; rw [if_neg (by omega)]
  have H2 : Hid ((∀ i, i < 2 → get2 x y i = 0) → or2 x y = 0) := by
    intro h0
    have a0 := h0 0 (by omega)
    have a1 := h0 1 (by omega)
    simp [get2] at a0 a1; unfold or2; rw [if_neg (by omega), a1]
  generalize or2 x y = R at *
  generalize get2 x y = G at *
  clear c
  go_enter Try.func52, Try.ntmps52
  go_wp2_with fail
  go_loopw [8] (fun i wr => ∃ j : Nat, j ≤ 2 ∧ i = .int .i64 j ∧ wr = w ∧ Hid (∀ i, i < j → G i = 0)) (fun i _ => 2 - (intOf i).toNat)
  case atStart => exact ⟨0, by omega, rfl, rfl, fun i hi => by omega⟩
  case round =>
    obtain ⟨j, hj, rfl, rfl, HJ⟩ := hrel
    by_cases hlt : j < 2
    · have c0 := HC.out j hlt
      by_cases hq : G j = 0
      · have HJ2 : Hid (∀ i, i < j + 1 → G i = 0) := by
          intro i hi
          by_cases e : i = j
          · rw [e]; exact hq
          · exact HJ.out i (by omega)
        rw [hq] at c0
        clear HC H1 H2 HJ hq
        go_wp2
        go_roundw
        case rel => exact ⟨j + 1, by omega, by go_num, trivial, HJ2⟩
        case measure => simp [intOf]; omega
      · have E : Hid (R = G j) := H1.out j hlt HJ.out hq
        have hq' : (G j != 0) = true := by simpa using hq
        clear HC H1 H2 HJ
        generalize G j = q at *
        go_wp2
        go_ret
        exact ⟨ret_int E.out.symm, rfl⟩
    · have E : Hid (R = 0) := H2.out (fun i hi => HJ.out i (by omega))
      clear HC H1 H2 HJ
      go_wp2
      go_ret
      exact ⟨ret_int E.out.symm, rfl⟩

theorem cell_alloc_keep {W : World} {a : Addr} {v : Value} (o : Obj) (h : W.cell? a = some v) : (W.alloc o).cell? a = some v := by
  rw [World.cell?_alloc_lt _ _ _ (cell_ltK h)]; exact h
theorem bef_or2 (a b : E) : befE a b = decide (or2 (ordI a.arch b.arch) (ordI a.nr b.nr) < 0) := by
  unfold befE or2
  rcases Int.lt_trichotomy a.arch b.arch with h | h | h
  · rw [ordI_neg h]; simp [h]
  · rw [ordI_same h]
    rcases Int.lt_trichotomy a.nr b.nr with h2 | h2 | h2
    · rw [ordI_neg h2]; simp [h, h2]
    · rw [ordI_same h2]; simp [h, h2]
    · rw [ordI_pos h2]; simp [h]; omega
  · rw [ordI_pos h]; simp; omega

set_option maxRecDepth 100000 in
set_option maxHeartbeats 1000000 in
theorem comesBefore_any (arch nr arch' nr' : Int) (a a' : Option Addr) (n cap n' cap' : Nat) (w : World) (h1 : 0 ≤ arch ∧ arch ≤ 4294967295) (h2 : 0 ≤ nr ∧ nr ≤ 4294967295) (h3 : 0 ≤ arch' ∧ arch' ≤ 4294967295) (h4 : 0 ≤ nr' ∧ nr' ≤ 4294967295) :
    Calls Try.prog 35 #[.agg #[.int .u32 arch, .int .u32 nr, .slice a n cap], .agg #[.int .u32 arch', .int .u32 nr', .slice a' n' cap']] w fun e w' => e = .returned (.bool (decide (or2 (ordI arch arch') (ordI nr nr') < 0))) ∧ Below w.heap.size w w' := by
  have HA : Hid (∀ x y w, (0 ≤ x ∧ x ≤ 4294967295) → (0 ≤ y ∧ y ≤ 4294967295) → Calls Try.prog 53 #[.int .u32 x, .int .u32 y] w fun e w' => e = .returned (.int .i64 (ordI x y)) ∧ w' = w) := fun x y w hx hy => cmp32_any x y w hx hy
  obtain ⟨R, hR⟩ : ∃ R, or2 (ordI arch arch') (ordI nr nr') = R := ⟨_, rfl⟩
  have HR : Hid (or2 (ordI arch arch') (ordI nr nr') = R) := hR
  rw [hR]
  clear hR
  go_enter Try.func35, Try.ntmps35
  go_wp2_with fail
  have X := (BoxK.new w 60 (.int .u32 arch) (.int .u32 nr) (.slice a n cap)).alloc (.cells #[.int .u32 arch', .int .u32 nr', .slice a' n' cap'] 60)
  have Y := BoxK.new (w.alloc (.cells #[.int .u32 arch, .int .u32 nr, .slice a n cap] 60)) 60 (.int .u32 arch') (.int .u32 nr') (.slice a' n' cap')
  have hsz : (w.alloc (.cells #[.int .u32 arch, .int .u32 nr, .slice a n cap] 60)).heap.size = w.heap.size + 1 := by simp
  have B0 : Below w.heap.size w ((w.alloc (.cells #[.int .u32 arch, .int .u32 nr, .slice a n cap] 60)).alloc (.cells #[.int .u32 arch', .int .u32 nr', .slice a' n' cap'] 60)) := ((Below.refl _ _).alloc (Nat.le_refl _) _).alloc (by simp) _
  rw [hsz] at Y
  generalize ((w.alloc (.cells #[.int .u32 arch, .int .u32 nr, .slice a n cap] 60)).alloc (.cells #[.int .u32 arch', .int .u32 nr', .slice a' n' cap'] 60)) = W at *
  clear hsz
  obtain ⟨_, x0, x1, x2, _, _, _⟩ := X
  obtain ⟨_, y0, y1, y2, _, _, _⟩ := Y
  have HS0 : Below W.heap.size W W.drew := (Below.refl _ _).drew
  have HOr : Hid (∀ w1 : World, Calls Try.prog 52 #[.slice (some ⟨w1.heap.size, 0, none⟩) 2 2] (w1.alloc (.cells #[.int .i64 (ordI arch arch'), .int .i64 (ordI nr nr')] 3)).drew fun e w' => e = .returned (.int .i64 R) ∧ w' = (w1.alloc (.cells #[.int .i64 (ordI arch arch'), .int .i64 (ordI nr nr')] 3)).drew) := by
    intro w1
    rw [← HR.out]
    refine cmpOr2_any w1.heap.size _ _ _ (fun j hj => ?_)
    have : j = 0 ∨ j = 1 := by omega
    rcases this with rfl | rfl <;> simp [get2]
  go_region_held3 (fun w' => Below W.heap.size W w' ∧ w'.cell? ⟨w.heap.size, 0, none⟩ = some (.int .u32 arch) ∧ w'.cell? ⟨w.heap.size, 1, none⟩ = some (.int .u32 nr) ∧ w'.cell? ⟨w.heap.size + 1, 0, none⟩ = some (.int .u32 arch') ∧ w'.cell? ⟨w.heap.size + 1, 1, none⟩ = some (.int .u32 nr'))
    (refine ⟨?_, ?_, ?_, ?_, ?_⟩ <;> first | assumption | exact Below.alloc (by assumption) (Below.size (by assumption)) _ | exact cell_alloc_keep _ (by assumption) | (simp [*]; done))
    (first
      | (go_at_call 53; refine (HA.out _ _ _ (by assumption) (by assumption)).mono ?_; rintro e w' ⟨rfl, rfl⟩)
      | (go_at_call 52; refine (HOr.out _).mono ?_; rintro e w' ⟨rfl, rfl⟩))
  have B1 : Below w.heap.size w ((W.alloc (.cells #[.int .i64 (ordI arch arch'), .int .i64 (ordI nr nr')] 3)).drew) := (B0.alloc B0.size _).drew
  go_wp2
  go_ret
  exact ⟨rfl, B1⟩
end Go.Proofs.Ytoopomjkapeknaa
namespace Go.Proofs.Ytoopomjkapeknaa
open Go.RowKit
set_option linter.unusedVariables false

set_option maxRecDepth 100000 in
set_option maxHeartbeats 4000000 in
theorem implValidP_any (p : List E) (a : Option Addr) (cap : Nat) (w : World) (hs : LSrc 3 PE w a p) (ho : okP p) (hn : p.length ≤ 16777216) (hm : ∀ e ∈ p, e.rules.length ≤ 16777216) (hm2 : ∀ e ∈ p, ∀ r ∈ e.rules, r.length ≤ 16777216) :
    Calls Try.prog 18 #[.agg #[.slice a p.length cap]] w fun e w' => e = .returned (.bool (validP p)) ∧ Below w.heap.size w w' := by
  have B : Below w.heap.size w (w.alloc (.cells #[.slice a p.length cap] 31)) := (Below.refl _ _).alloc (Nat.le_refl _) _
  have HP : Hid (∀ wr, Below w.heap.size w wr → ∀ i, i < p.length → ∃ b o, a = some ⟨b, o, none⟩ ∧ b < wr.heap.size ∧ PE wr b (o + i * 3) (p.getD i E.zero)) := fun wr hB i hi => (hs.below PE.stays hB).at hi E.zero
  have HNo : Hid (∀ i, i < p.length → stepOk p i = false → validP p = false) := fun i hi h => validP_no hi h
  have HYes : Hid ((∀ i, i < p.length → stepOk p i = true) → validP p = decide (totalR p ≤ 1000)) := fun h => validP_yes h
  have HOk0 : Hid (∀ i, okRs (p.getD i E.zero).rules) := fun i => (okP_at ho i).2.2
  have HSm0 : Hid (∀ i, i < p.length → (p.getD i E.zero).rules.length ≤ 16777216 ∧ ∀ r ∈ (p.getD i E.zero).rules, r.length ≤ 16777216) := fun i hi => ⟨hm _ (entry_mem hi), hm2 _ (entry_mem hi)⟩
  have HSt : Hid (∀ i, stepOk p i = ((i == 0 || befE (p.getD (i - 1) E.zero) (p.getD i E.zero)) && validE (p.getD i E.zero))) := fun i => rfl
  have HBd : Hid (∀ i, (0 ≤ (p.getD i E.zero).arch ∧ (p.getD i E.zero).arch ≤ 4294967295) ∧ (0 ≤ (p.getD i E.zero).nr ∧ (p.getD i E.zero).nr ≤ 4294967295)) := fun i => ⟨(okP_at ho i).1, (okP_at ho i).2.1⟩
  have HT : Hid (∀ i, i < p.length → totalR (p.take (i + 1)) = totalR (p.take i) + (p.getD i E.zero).rules.length) := fun i hi => totalR_take hi
  have HA : Hid (totalR (p.take p.length) = totalR p) := by show _ = _; rw [List.take_length]
  have HL : Hid (∀ i, i < p.length → totalR (p.take i) + (p.getD i E.zero).rules.length ≤ 281474976710656) := fun i hi => by
    rw [← totalR_take hi]
    have := totalR_le (p := p.take (i + 1)) (fun e he => hm e (List.mem_of_mem_take he))
    have h2 : (p.take (i + 1)).length ≤ p.length := by simp; omega
    omega
  have HTl : Hid (totalR p ≤ 281474976710656) := by have := totalR_le hm; unfold Hid; omega
  have x0 := box1 w 31 (.slice a p.length cap)
  obtain ⟨V, hV⟩ : ∃ V, validP p = V := ⟨_, rfl⟩
  rw [hV] at HNo HYes ⊢
  clear hV hs hm hm2 ho
  generalize totalR p = tt at *
  generalize p.length = n at *
  go_enter Try.func18, Try.ntmps18
  go_wp2_with fail
  go_loopw [3, 9] (fun q i wr => ∃ k : Nat, k ≤ n ∧ i = .int .i64 k ∧ q = .int .i64 (totalR (p.take k) : Nat) ∧ Hid (∀ j, j < k → stepOk p j = true) ∧ wr.cell? ⟨w.heap.size, 0, none⟩ = some (.slice a n cap) ∧ Below w.heap.size w wr) (fun _ i _ => n - (intOf i).toNat)
  case atStart => exact ⟨0, by omega, rfl, by simp [totalR], fun j hj => by omega, x0, B⟩
  case round =>
    clear B x0
    obtain ⟨k, hk, rfl, rfl, HJ0, x0, B⟩ := hrel
    rename World => W0
    by_cases hkn : k < n
    · have hkn' : (k : Int) < (n : Int) := by omega
      have HStep1 : Hid (stepOk p k = true → ∀ j, j < k + 1 → stepOk p j = true) := fun h j hj => by
        by_cases hjk : j = k
        · subst hjk; exact h
        · exact HJ0.out j (by omega)
      have HNo1 : Hid (stepOk p k = false → V = false) := HNo.out k hkn
      have hl := HL.out k hkn
      have HT1 : Hid (totalR (p.take (k + 1)) = totalR (p.take k) + (p.getD k E.zero).rules.length) := HT.out k hkn
      have HStk := HSt.out k
      obtain ⟨hsm1, hsm2⟩ := HSm0.out k hkn
      have hokk := HOk0.out k
      obtain ⟨b, o, rfl, hlt, c0, c1, ar, capr, c2, hsr⟩ := HP.out W0 B k hkn
      obtain ⟨hb1, hb2⟩ := HBd.out k
      generalize totalR (p.take k) = T0 at *
      generalize p.getD k E.zero = e at *
      obtain ⟨arch, nr, rules⟩ := e
      simp only at c0 c1 c2 hsr hb1 hb2 hsm1 hsm2 hokk HT1 hl
      have HIV : Hid (∀ w1, Below W0.heap.size W0 w1 → Calls Try.prog 36 #[.agg #[.int .u32 arch, .int .u32 nr, .slice ar rules.length capr]] w1 fun x w' => x = .returned (.bool (validE ⟨arch, nr, rules⟩)) ∧ Below w1.heap.size w1 w') := fun w1 hb => isValidEntry_any ⟨arch, nr, rules⟩ ar capr w1 (hsr.below PR.stays hb) hokk hsm1 hsm2
      clear hsr hokk hsm2
      generalize hQ : validE ⟨arch, nr, rules⟩ = Q at *
      generalize rules.length = m at *
      have BE : Below W0.heap.size W0 (W0.alloc (.cells #[.int .u32 arch, .int .u32 nr, .slice ar m capr] 60)) := (Below.refl _ _).alloc (Nat.le_refl _) _
      have Xe := (BoxK.new W0 60 (.int .u32 arch) (.int .u32 nr) (.slice ar m capr))
      have y0 := cell_step BE x0
      have hnx := World.new_ne W0 _ x0
      by_cases hk0 : k = 0
      · have hz : decide ((0 : Int) < (k : Int)) = false := decide_eq_false (by omega)
        have hkb : (k == 0) = true := by rw [beq_iff_eq]; exact hk0
        rw [hkb, Bool.true_or, Bool.true_and] at HStk
        have hzn : decide (0 < k) = false := decide_eq_false (by omega)
        clear hz hk0 hkb HP HNo HYes HOk0 HSm0 HSt HBd HT HA HL HTl HJ0
        go_wp2_with fail
        have hzm : decide (0 < k) = false := hzn
        have HBq : Hid (∀ q, Below W0.heap.size W0 ((W0.alloc (.cells #[.int .u32 arch, .int .u32 nr, .slice ar m capr] 60)).drewN q)) := fun q => below_drewN BE q
        have HXq : Hid (∀ q, BoxK ((W0.alloc (.cells #[.int .u32 arch, .int .u32 nr, .slice ar m capr] 60)).drewN q) W0.heap.size (.int .u32 arch) (.int .u32 nr) (.slice ar m capr)) := fun q => Xe.keep (below_drewN (Below.refl _ _) q)
        have Hxq : Hid (∀ q, ((W0.alloc (.cells #[.int .u32 arch, .int .u32 nr, .slice ar m capr] 60)).drewN q).cell? ⟨w.heap.size, 0, none⟩ = some (.slice (some ⟨b, o, none⟩) n cap)) := fun q => cell_step (below_drewN (Below.refl _ _) q) y0
        clear BE Xe y0
        go_quiet (fail)
        go_wp2_with fail
        refine (HIV.out _ (HBq.out _)).mono ?_
        rintro _ w6 ⟨rfl, hb6⟩
        have X6 := (HXq.out _).keep hb6
        have x6 := cell_step hb6 (Hxq.out _)
        have B6 := below_step (below_step hb6 (HBq.out _)) B
        clear hb6 HBq HXq Hxq HIV
        cases Q with
        | false =>
          have hVf : V = false := HNo1.out HStk
          subst hVf
          go_wp2
          go_ret
          exact ⟨rfl, B6⟩
        | true =>
          have HG : Hid (∀ j, j < k + 1 → stepOk p j = true) := HStep1.out HStk
          obtain ⟨_, e0, e1, e2, _, _, _⟩ := X6
          go_wp2
          go_roundw
          case rel => exact ⟨k + 1, by omega, by go_num, by rw [HT1.out]; simp, HG, x6, B6⟩
          case measure => simp [intOf]; omega
      · have hz : decide ((0 : Int) < (k : Int)) = true := decide_eq_true (by omega)
        have hz' : (0 : Int) < (k : Int) := by omega
        have hw1 : IntKind.i64.wrap ((k : Int) - 1) = ((k - 1 : Nat) : Int) := by simp [IntKind.wrap, IntKind.bits, IntKind.signed]; omega
        have hk1 : ((k - 1 : Nat) : Int) < (n : Int) := by omega
        have hk2 : k - 1 < n := by omega
        have hkb : (k == 0) = false := by rw [beq_eq_false_iff_ne]; exact hk0
        rw [hkb, Bool.false_or] at HStk
        obtain ⟨b', o', hbo, _, d0, d1, ar', capr', d2, _⟩ := HP.out W0 B (k - 1) (by omega)
        cases hbo
        obtain ⟨hb3, hb4⟩ := HBd.out (k - 1)
        generalize p.getD (k - 1) E.zero = d at *
        obtain ⟨arch', nr', rules'⟩ := d
        simp only at d0 d1 d2 hb3 hb4
        generalize rules'.length = m' at *
        have HBf : Hid (befE ⟨arch', nr', rules'⟩ ⟨arch, nr, rules⟩ = decide (or2 (ordI arch' arch) (ordI nr' nr) < 0)) := bef_or2 _ _
        rw [HBf.out] at HStk
        have HCB : Hid (∀ w1, Calls Try.prog 35 #[.agg #[.int .u32 arch', .int .u32 nr', .slice ar' m' capr'], .agg #[.int .u32 arch, .int .u32 nr, .slice ar m capr]] w1 fun e w' => e = .returned (.bool (decide (or2 (ordI arch' arch) (ordI nr' nr) < 0))) ∧ Below w1.heap.size w1 w') := fun w1 => comesBefore_any arch' nr' arch nr ar' ar m' capr' m capr w1 hb3 hb4 hb1 hb2
        generalize decide (or2 (ordI arch' arch) (ordI nr' nr) < 0) = P at *
        have SK : Hid (∀ wa wb, Below wa.heap.size wa wb → (Below W0.heap.size W0 wa ∧ wa.cell? ⟨w.heap.size, 0, none⟩ = some (.slice (some ⟨b, o, none⟩) n cap) ∧ wa.cell? ⟨b, o + (k - 1) * 3, none⟩ = some (.int .u32 arch') ∧ wa.cell? ⟨b, o + (k - 1) * 3 + 1, none⟩ = some (.int .u32 nr') ∧ wa.cell? ⟨b, o + (k - 1) * 3 + 2, none⟩ = some (.slice ar' m' capr') ∧ wa.cell? ⟨W0.heap.size, 0, none⟩ = some (.int .u32 arch) ∧ wa.cell? ⟨W0.heap.size, 1, none⟩ = some (.int .u32 nr) ∧ wa.cell? ⟨W0.heap.size, 2, none⟩ = some (.slice ar m capr)) → (Below W0.heap.size W0 wb ∧ wb.cell? ⟨w.heap.size, 0, none⟩ = some (.slice (some ⟨b, o, none⟩) n cap) ∧ wb.cell? ⟨b, o + (k - 1) * 3, none⟩ = some (.int .u32 arch') ∧ wb.cell? ⟨b, o + (k - 1) * 3 + 1, none⟩ = some (.int .u32 nr') ∧ wb.cell? ⟨b, o + (k - 1) * 3 + 2, none⟩ = some (.slice ar' m' capr') ∧ wb.cell? ⟨W0.heap.size, 0, none⟩ = some (.int .u32 arch) ∧ wb.cell? ⟨W0.heap.size, 1, none⟩ = some (.int .u32 nr) ∧ wb.cell? ⟨W0.heap.size, 2, none⟩ = some (.slice ar m capr))) := fun wa wb hb ⟨s, s0, s1, s2, s3, s4, s5, s6⟩ =>
          ⟨below_step hb s, cell_step hb s0, cell_step hb s1, cell_step hb s2, cell_step hb s3, cell_step hb s4, cell_step hb s5, cell_step hb s6⟩
        have hS0 : Below W0.heap.size W0 (W0.alloc (.cells #[.int .u32 arch, .int .u32 nr, .slice ar m capr] 60)).drew ∧ (W0.alloc (.cells #[.int .u32 arch, .int .u32 nr, .slice ar m capr] 60)).drew.cell? ⟨w.heap.size, 0, none⟩ = some (.slice (some ⟨b, o, none⟩) n cap) ∧ (W0.alloc (.cells #[.int .u32 arch, .int .u32 nr, .slice ar m capr] 60)).drew.cell? ⟨b, o + (k - 1) * 3, none⟩ = some (.int .u32 arch') ∧ (W0.alloc (.cells #[.int .u32 arch, .int .u32 nr, .slice ar m capr] 60)).drew.cell? ⟨b, o + (k - 1) * 3 + 1, none⟩ = some (.int .u32 nr') ∧ (W0.alloc (.cells #[.int .u32 arch, .int .u32 nr, .slice ar m capr] 60)).drew.cell? ⟨b, o + (k - 1) * 3 + 2, none⟩ = some (.slice ar' m' capr') ∧ (W0.alloc (.cells #[.int .u32 arch, .int .u32 nr, .slice ar m capr] 60)).drew.cell? ⟨W0.heap.size, 0, none⟩ = some (.int .u32 arch) ∧ (W0.alloc (.cells #[.int .u32 arch, .int .u32 nr, .slice ar m capr] 60)).drew.cell? ⟨W0.heap.size, 1, none⟩ = some (.int .u32 nr) ∧ (W0.alloc (.cells #[.int .u32 arch, .int .u32 nr, .slice ar m capr] 60)).drew.cell? ⟨W0.heap.size, 2, none⟩ = some (.slice ar m capr) := by
          obtain ⟨_, f0, f1, f2, _, _, _⟩ := Xe
          have hd : Below (W0.alloc (.cells #[.int .u32 arch, .int .u32 nr, .slice ar m capr] 60)).heap.size (W0.alloc (.cells #[.int .u32 arch, .int .u32 nr, .slice ar m capr] 60)) (W0.alloc (.cells #[.int .u32 arch, .int .u32 nr, .slice ar m capr] 60)).drew := (Below.refl _ _).drew
          exact SK.out _ _ hd ⟨BE, y0, cell_step BE d0, cell_step BE d1, cell_step BE d2, f0, f1, f2⟩
        have hkp : 0 < k := by omega
        clear hz hz' hk0 hkb HP HNo HYes HOk0 HSm0 HSt HBd HT HA HL HTl HJ0 HBf d0 d1 d2 Xe
        go_wp2_with fail
        have hzm : decide (0 < k) = true := decide_eq_true hkp
        go_region_held3 (fun w' => Below W0.heap.size W0 w' ∧ w'.cell? ⟨w.heap.size, 0, none⟩ = some (.slice (some ⟨b, o, none⟩) n cap) ∧ w'.cell? ⟨b, o + (k - 1) * 3, none⟩ = some (.int .u32 arch') ∧ w'.cell? ⟨b, o + (k - 1) * 3 + 1, none⟩ = some (.int .u32 nr') ∧ w'.cell? ⟨b, o + (k - 1) * 3 + 2, none⟩ = some (.slice ar' m' capr') ∧ w'.cell? ⟨W0.heap.size, 0, none⟩ = some (.int .u32 arch) ∧ w'.cell? ⟨W0.heap.size, 1, none⟩ = some (.int .u32 nr) ∧ w'.cell? ⟨W0.heap.size, 2, none⟩ = some (.slice ar m capr))
          (assumption)
          ((go_at_call 35; refine (HCB.out _).mono ?_; rintro e wq ⟨rfl, hbq⟩; have hS1 := SK.out _ _ hbq (by assumption)))
        cases P with
        | false =>
          have hVf : V = false := HNo1.out (by rw [HStk]; simp)
          subst hVf
          have B6 := below_step hS1.1 B
          go_wp2
          go_ret
          exact ⟨rfl, B6⟩
        | true =>
          rw [Bool.true_and] at HStk
          obtain ⟨Bq, xq, _, _, _, e0, e1, e2⟩ := hS1
          clear hS0 SK HCB
          go_wp2_with fail
          refine (HIV.out _ Bq).mono ?_
          rintro _ w6 ⟨rfl, hb6⟩
          have f0 := cell_step hb6 e0
          have f1 := cell_step hb6 e1
          have f2 := cell_step hb6 e2
          have x6 := cell_step hb6 xq
          have B6 := below_step (below_step hb6 Bq) B
          clear hb6 xq Bq e0 e1 e2 HIV
          cases Q with
          | false =>
            have hVf : V = false := HNo1.out HStk
            subst hVf
            go_wp2
            go_ret
            exact ⟨rfl, B6⟩
          | true =>
            have HG : Hid (∀ j, j < k + 1 → stepOk p j = true) := HStep1.out HStk
            go_wp2
            go_roundw
            case rel => exact ⟨k + 1, by omega, by go_num, by rw [HT1.out]; simp, HG, x6, B6⟩
            case measure => simp [intOf]; omega
    · have hk' : k = n := by omega
      subst hk'
      have hV := HYes.out HJ0.out
      subst hV
      have htl := HTl.out
      have hA := HA.out
      rw [hA]
      clear HYes HNo HP
      go_wp2
      go_ret
      refine ⟨?_, B⟩
      simp; omega
end Go.Proofs.Ytoopomjkapeknaa
namespace Go.Proofs.Ytoopomjkapeknaa
open Go.RowKit
set_option linter.unusedVariables false

theorem rev_step {p : List I} {k : Nat} (h : k < p.length) : (p.drop k).reverse = (p.drop (k + 1)).reverse ++ [p.getD k I.zero] := by
  rw [List.drop_eq_getElem_cons h, List.reverse_cons, List.getD_eq_getElem?_getD, List.getElem?_eq_getElem h]; rfl
theorem Src.at {w : World} {a : Option Addr} {p : List I} (h : Src w a p) {i : Nat} (hi : i < p.length) : ∃ b o, a = some ⟨b, o, none⟩ ∧ b < w.heap.size ∧ w.cell? ⟨b, o + i * 4, none⟩ = some (.int .u16 (p.getD i I.zero).c) ∧ w.cell? ⟨b, o + i * 4 + 1, none⟩ = some (.int .u8 (p.getD i I.zero).jt) ∧ w.cell? ⟨b, o + i * 4 + 2, none⟩ = some (.int .u8 (p.getD i I.zero).jf) ∧ w.cell? ⟨b, o + i * 4 + 3, none⟩ = some (.int .u32 (p.getD i I.zero).k) := by
  rcases h with rfl | ⟨b, o, rfl, hb, hp⟩
  · simp at hi
  · exact ⟨b, o, rfl, hb, hp i hi⟩
def LayPost (l : List It) (w : World) (e : Ending) (w' : World) : Prop := ∃ v, e = .returned (.tuple #[v, .int .i64 (layC l)]) ∧ ownsI w' w.heap.size v (layL l) ∧ Below w.heap.size w w'

set_option maxRecDepth 100000 in
set_option maxHeartbeats 4000000 in
theorem l5lay_any (l : List It) (a : Option Addr) (cap : Nat) (w : World) (s0 : List I × Mk) (hs : TSrc w a l) (ho : ∀ x ∈ l, x.ok) (hl : layI l = some s0) (hn : l.length ≤ 1000000) :
    Calls Try.prog 15 #[.slice a l.length cap] w fun e w' => LayPost l w e w' := by
  obtain ⟨i1, hi1, hy0, hy1, hy2⟩ := info_parts info36
  have HL : Hid (Calls Try.prog 27 #[.slice a l.length cap] w fun e w' => LaidPost l w e w') := l5laid_any l a cap w s0 hs ho hl hn
  have HBig : Hid (∀ k ms st, LdS l k ms st → 4096 < st.1.length → layC l = 10 ∧ layL l = []) := fun k ms st h h4 => by
    obtain ⟨t, h1, h2⟩ := layI_part hl k
    rw [h.lay] at h1
    cases h1
    exact lay_big hl (by omega)
  have HOk : Hid (∀ ms st, LdS l 0 ms st → ¬ 4096 < st.1.length → layC l = 0 ∧ layL l = st.1.reverse) := fun ms st h h4 => by
    have h1 := h.lay
    rw [List.drop_zero] at h1
    exact lay_ok h1 (by omega)
  have HPo : Hid (∀ v w', ownsI w' w.heap.size v (layL l) → Below w.heap.size w w' → LayPost l w (.returned (.tuple #[v, .int .i64 (layC l)])) w') := fun v w' h1 h2 => ⟨v, rfl, h1, h2⟩
  clear hs ho hl s0
  generalize l.length = n at *
  go_enter Try.func15, Try.ntmps15
  go_wp2_with fail
  refine (HL.out).mono ?_
  rintro _ w1 ⟨v, k, ms, st, rfl, hO, hLd, hk, hb1⟩
  obtain ⟨al, cl, rfl, hsr⟩ := ownsI_src hO
  by_cases h4 : 4096 < st.1.length
  · obtain ⟨e1, e2⟩ := HBig.out k ms st hLd h4
    rw [e1, e2] at HPo
    have HPv : Hid (LayPost l w (.returned (.tuple #[.slice none 0 0, .int .i64 10])) w1) := HPo.out _ w1 (World.ownsRow_nil _ _ _ _) hb1
    have h4' : (4096 : Int) < (st.1.length : Int) := by omega
    clear HBig HOk HPo HL hO hLd hsr hk e1 e2
    generalize st.1.length = ln at *
    go_wp2
    exact bodyPost_ret (v := .tuple #[.slice none 0 0, .int .i64 10]) (by simp [results, Try.results15, go_sem]) rfl HPv.out
  · have hk0 : k = 0 := by omega
    subst hk0
    obtain ⟨e1, e2⟩ := HOk.out ms st hLd h4
    rw [e1, e2] at HPo
    have h4' : ¬ (4096 : Int) < (st.1.length : Int) := by omega
    have hl4 : st.1.length ≤ 4096 := by omega
    clear HBig HOk HL hO hLd hk e1 e2 h4
    generalize st.1 = p at *
    have HR : Hid (∀ k, k < p.length → (p.drop k).reverse = (p.drop (k + 1)).reverse ++ [p.getD k I.zero]) := fun k hk => rev_step hk
    have HR0 : Hid ((p.drop 0).reverse = p.reverse) := rfl
    have HRn : Hid ((p.drop p.length).reverse = []) := by show _ = _; rw [List.drop_length]; rfl
    have HRl : Hid (∀ k, (p.drop k).reverse.length = p.length - k) := fun k => by rw [List.length_reverse, List.length_drop]
    have HS : Hid (∀ wr, Below w1.heap.size w1 wr → ∀ i, i < p.length → ∃ b o, al = some ⟨b, o, none⟩ ∧ b < wr.heap.size ∧ wr.cell? ⟨b, o + i * 4, none⟩ = some (.int .u16 (p.getD i I.zero).c) ∧ wr.cell? ⟨b, o + i * 4 + 1, none⟩ = some (.int .u8 (p.getD i I.zero).jt) ∧ wr.cell? ⟨b, o + i * 4 + 2, none⟩ = some (.int .u8 (p.getD i I.zero).jf) ∧ wr.cell? ⟨b, o + i * 4 + 3, none⟩ = some (.int .u32 (p.getD i I.zero).k)) := fun wr hb i hi => (hsr.below hb).at hi
    clear hsr
    obtain ⟨pr, hpr⟩ : ∃ pr : Nat → List I, ∀ k, (p.drop k).reverse = pr k := ⟨_, fun _ => rfl⟩
    simp only [hpr] at HR HR0 HRn HRl
    generalize p.reverse = prev at *
    generalize hpl : p.length = pn at *
    clear hpl hpr
    have hwn : IntKind.i64.wrap ((pn : Int) - 1) = (pn : Int) - 1 := by rw [IntKind.wrap_i64]; omega
    go_wp2_with fail
    go_loopw [5, 6] (fun so' i wr => ∃ (k : Nat) (so : Value), k ≤ pn ∧ i = .int .i64 ((k : Int) - 1) ∧ so = so' ∧ ownsI wr w1.heap.size so (pr k) ∧ Below w1.heap.size w1 wr) (fun _ i _ => (intOf i + 1).toNat)
    case atStart => exact ⟨pn, _, by omega, by first | rfl | go_num, rfl, by rw [HRn.out]; exact World.ownsRow_nil _ _ _ _, Below.refl _ _⟩
    case round =>
      obtain ⟨k, so, hk, rfl, hss, hOI, B⟩ := hrel
      subst hss
      rename World => W0
      by_cases hk0 : 0 < k
      · obtain ⟨k', rfl⟩ : ∃ k', k = k' + 1 := ⟨k - 1, by omega⟩
        have hk' : ((k' + 1 : Nat) : Int) - 1 = (k' : Int) := by omega
        rw [hk']
        have hkn : (k' : Int) < (pn : Int) := by omega
        have hkN : k' < pn := by omega
        have hw2 : IntKind.i64.wrap ((k' : Int) - 1) = (k' : Int) - 1 := by rw [IntKind.wrap_i64]; omega
        obtain ⟨b, o, rfl, hlt, c0, c1, c2, c3⟩ := HS.out W0 B k' hkN
        have HRk : Hid (pr k' = pr (k' + 1) ++ [p.getD k' I.zero]) := HR.out k' hkN
        have hrl := HRl.out (k' + 1)
        generalize p.getD k' I.zero = x at *
        obtain ⟨c, jt, jf, ik⟩ := x
        simp only at c0 c1 c2 c3
        have hsz := B.size
        have hbs : w1.heap.size ≤ (W0.alloc (.cells #[.int .u16 c, .int .u8 jt, .int .u8 jf, .int .u32 ik] 51)).heap.size := by simp; omega
        have hbm : (pr (k' + 1)).length + 1 ≤ maxLen := by unfold maxLen; omega
        have hbd : ((pr (k' + 1)).length + 1) * 8 ≤ 140737488355328 := by omega
        clear HR HR0 HRn HRl HS HPo
        go_wp2_with (at_builtin; refine wpList_append_own _ rfl (.tmp 19) (.tmp 24) 26 rfl (w1.heap.size) 51 i1 _ 4 8 Try.underlying26 hi1 hy0 hy1 hy2 rfl (by decide) so (pr (k' + 1)).length (insCells (pr (k' + 1))) rfl (World.ownsRow.alloc hOI _) ⟨W0.heap.size, 0, none⟩ 1 1 [.int .u16 c, .int .u8 jt, .int .u8 jf, .int .u32 ik] rfl rfl (news_at (by simp)) (by simp [Value.oneCell']) hbm hbd hbs ?_)
        intro v9 w9 ow gr _
        have p9 : ownsI w9 w1.heap.size v9 (pr (k' + 1) ++ [⟨c, jt, jf, ik⟩]) := ownsI_snoc (by omega) ow
        have B9 : Below w1.heap.size w1 w9 := (B.alloc hsz _).grown gr hbs (fun t ht => (World.ownsRow.lt hOI t ht).1)
        rw [← HRk.out] at p9
        clear ow gr hOI B c0 c1 c2 c3 hbm hbd hbs
        go_wp2
        go_roundw
        case rel => exact ⟨k', _, by omega, by first | rfl | go_num, rfl, p9, B9⟩
        case measure => simp [intOf]
      · have hk' : k = 0 := by omega
        subst hk'
        rw [HR0.out] at hOI
        have HPv : Hid (LayPost l w (.returned (.tuple #[so, .int .i64 0])) W0) := HPo.out so W0 (World.ownsRow.mono hOI hb1.size) (hb1.trans (B.mono hb1.size))
        clear HR HR0 HRn HRl HS HPo hOI
        go_wp2
        exact bodyPost_ret (v := .tuple #[so, .int .i64 0]) (by simp [results, Try.results15, go_sem]) rfl HPv.out

def AsmPost (l : List It) (w : World) (e : Ending) (w' : World) : Prop := ∃ v, e = .returned (.tuple #[v, .int .i64 (asmC l)]) ∧ ownsI w' w.heap.size v (asmL l) ∧ Below w.heap.size w w'
theorem asm_bad {l : List It} (h : itemsB l = false) : asmC l = 1 ∧ asmL l = [] := by
  cases e : asmOK l with
  | false => exact asm_no e
  | true =>
    have hn : layI l = none := by
      unfold itemsB at h
      unfold asmOK at e
      simp only [Bool.and_eq_true] at e
      rw [e.2] at h
      simpa using h
    rw [(asm_yes e).1, (asm_yes e).2]
    exact lay_none hn
theorem asm_good {l : List It} (h : itemsB l = true) (hn : l.length ≤ 20000) : (∃ s, layI l = some s) ∧ asmC l = layC l ∧ asmL l = layL l := by
  unfold itemsB at h
  simp only [Bool.and_eq_true] at h
  have : asmOK l = true := by unfold asmOK; simp [hn, h.1]
  exact ⟨Option.isSome_iff_exists.1 h.2, asm_yes this⟩
theorem asm_long {l : List It} (hn : 20000 < l.length) : asmC l = 1 ∧ asmL l = [] := asm_no (by unfold asmOK; have : ¬ l.length ≤ 20000 := by omega
                                                                                                simp [this])

end Go.Proofs.Ytoopomjkapeknaa
namespace Go.Proofs.Ytoopomjkapeknaa
open Go.RowKit
set_option linter.unusedVariables false

/-- cells of other kinds stay -/
def FarT (w w' : World) : Prop := ∀ (q : Nat) (c : Array Value) (t : TypeId) (f : Nat × Nat), w.heap[q]? = some (.cells c t f) → t ≠ 51 → t ≠ 82 → w'.heap[q]? = some (.cells c t f)
theorem FarT.of_below {w w' : World} (h : Below w.heap.size w w') : FarT w w' := fun q c t f hq _ _ => (h.block q (Array.getElem?_eq_some_iff.1 hq).1).trans hq
/-- what lay below stays, and all that is no cells, and cells of other kinds -/
structure KB (B : Nat) (w w' : World) : Prop where
  b : Below B w w'
  k : KeepsOthers w w'
  f : FarT w w'
theorem KB.refl (B : Nat) (w : World) : KB B w w := ⟨Below.refl _ _, KeepsOthers.refl _, fun _ _ _ _ h _ _ => h⟩
theorem KB.trans {B : Nat} {a b c : World} (h : KB B a b) (k : KB B b c) : KB B a c := ⟨h.b.trans k.b, h.k.trans k.k, fun q cc t f h0 h1 h2 => k.f q cc t f (h.f q cc t f h0 h1 h2) h1 h2⟩
theorem KB.alloc {B : Nat} {a b : World} (h : KB B a b) (hB : B ≤ b.heap.size) (o : Obj) : KB B a (b.alloc o) := h.trans ⟨(Below.refl _ _).alloc hB o, KeepsOthers.alloc _ _, FarT.of_below ((Below.refl _ _).alloc (Nat.le_refl _) o)⟩
theorem KB.drew {B : Nat} {a b : World} (h : KB B a b) : KB B a b.drew := h.trans ⟨(Below.refl _ _).drew, KeepsOthers.drew _, FarT.of_below (Below.refl _ _).drew⟩
theorem KB.mono {B B' : Nat} {a b : World} (h : KB B a b) (hB : B' ≤ B) : KB B' a b := ⟨h.b.mono hB, h.k, h.f⟩
theorem own_cells {w : World} {B e s n : Nat} {v : Value} {xs : List Value} (h : w.ownsRow B e s v n xs) (j : Nat) (o : Obj) (hj : v.ownBlock = some j) (ho : w.heap[j]? = some o) : o.isCells = true := by
  obtain ⟨_, ⟨rfl, _⟩ | ⟨g, cap, cur, rfl, hb, hgc, _⟩⟩ := h
  · cases hj
  · have : g = j := by simpa [Value.ownBlock] using hj
    subst this
    rw [hgc] at ho; cases ho; rfl

theorem own_type {w : World} {B e s n q : Nat} {v : Value} {xs : List Value} (h : w.ownsRow B e s v n xs) (hj : v.ownBlock = some q) {c : Array Value} {t : TypeId} {f : Nat × Nat} (hq : w.heap[q]? = some (.cells c t f)) : t = e := by
  obtain ⟨_, ⟨rfl, _⟩ | ⟨g, cap, cur, rfl, hb, hgc, _⟩⟩ := h
  · cases hj
  · have : g = q := by simpa [Value.ownBlock] using hj
    subst this
    rw [hgc] at hq; cases hq; rfl
/-- what the map of places holds -/
def MapI (w : World) (Bm n : Nat) (m : Mk) : Prop := ∃ D : DataW Unit, w.ownsMap Try.prog 3 (plainElem Try.prog 3) Bm n D ∧
  (∀ t, (Lit.int .i64 t).wf = true → m t = none → Maps.has D (.int .i64 t) = false) ∧ (∀ t a, m t = some a → Maps.has D (.int .i64 t) = true ∧ ∀ z, D.atKey (.int .i64 t) z = .lit (.int .i64 (a : Int)))

/-- a layout at L, its map at Bm -/
structure LayS (w : World) (L Bm n : Nat) (v : Value) (p : List I) (m : Mk) : Prop where
  bm : Bm < L
  c0 : w.cell? ⟨L, 0, none⟩ = some v
  c1 : w.cell? ⟨L, 1, none⟩ = some (.map (some Bm))
  f0 : w.frozen? ⟨L, 0, none⟩ = false
  ty : ∃ c f, w.heap[L]? = some (.cells c 82 f)
  own : ownsI w (L + 1) v p
  mp : MapI w Bm n m
theorem LayS.lt {w : World} {L Bm n : Nat} {v : Value} {p : List I} {m : Mk} (h : LayS w L Bm n v p m) : L < w.heap.size := cell_ltK h.c0
theorem LayS.keep {w w' : World} {L Bm n : Nat} {v : Value} {p : List I} {m : Mk} (h : LayS w L Bm n v p m) (hb : Below w.heap.size w w') : LayS w' L Bm n v p m := by
  obtain ⟨D, h1, h2, h3⟩ := h.mp
  exact ⟨h.bm, (hb.cell (p := ⟨L, 0, none⟩) h.lt).trans h.c0, (hb.cell (p := ⟨L, 1, none⟩) h.lt).trans h.c1, (hb.frozen (p := ⟨L, 0, none⟩) h.lt).trans h.f0, (by obtain ⟨c, f, e⟩ := h.ty; exact ⟨c, f, (hb.block L h.lt).trans e⟩), ownsI_below h.own hb, D, h1.kept (row := none) ⟨hb.os, hb.tape, hb.output, hb.size, fun k hk _ => hb.block k hk⟩ (by simp), h2, h3⟩
/-- blocks but L and the row's stay -/
def FarL (L : Nat) (v : Value) (w w' : World) : Prop := ∀ q, q < w.heap.size → q ≠ L → some q ≠ v.ownBlock → w'.heap[q]? = w.heap[q]?
theorem LayS.next {w w1 : World} {L Bm n gg cap : Nat} {v : Value} {p : List I} {m : Mk} {x : I} {H : Nat} (h : LayS w L Bm n v p m)
    (hown : w1.ownsRow (L + 1) 51 4 (.slice (some ⟨gg, 0, none⟩) (p.length + 1) cap) (p.length + 1) (insCells p ++ insC x)) (hg : w.grownBy w1 v.ownBlock) :
    w1.cell? ⟨L, 0, none⟩ = some v ∧ w1.frozen? ⟨L, 0, none⟩ = false ∧ LayS (w1.setCell ⟨L, 0, none⟩ (.slice (some ⟨gg, 0, none⟩) (p.length + 1) cap)) L Bm n (.slice (some ⟨gg, 0, none⟩) (p.length + 1) cap) (p ++ [x]) m ∧ KB L w (w1.setCell ⟨L, 0, none⟩ (.slice (some ⟨gg, 0, none⟩) (p.length + 1) cap)) ∧ FarL L v w (w1.setCell ⟨L, 0, none⟩ (.slice (some ⟨gg, 0, none⟩) (p.length + 1) cap)) := by
  have hlt := h.lt
  have ne : some L ≠ v.ownBlock := fun e => by have := (h.own.lt L e.symm).1; omega
  have ne2 : some Bm ≠ v.ownBlock := fun e => by have := (h.own.lt Bm e.symm).1; have := h.bm; omega
  have x1 := (hg.cell_far ⟨L, 0, none⟩ hlt ne).trans h.c0
  have x2 := (hg.frozen_far ⟨L, 0, none⟩ hlt ne).trans h.f0
  have x3 := (hg.cell_far ⟨L, 1, none⟩ hlt ne).trans h.c1
  obtain ⟨D, d1, d2, d3⟩ := h.mp
  obtain ⟨cy, fy, hy⟩ := h.ty
  have x6 := (hg.block L hlt ne).trans hy
  have hB : Below L w w1 := (Below.refl L w).grown hg (Nat.le_of_lt hlt) (fun z hz => by have := (h.own.lt z hz).1; omega)
  refine ⟨x1, x2, ⟨h.bm, World.cell?_setCell_same _ _ _ x1, by rw [World.cell?_setCell_other _ _ _ _ (by intro e; injection e with e1 e2; cases e2)]; exact x3, by rw [World.frozen?_setCell]; exact x2, ⟨_, fy, by simp only [World.setCell, Array.getElem?_modify]; rw [if_pos trivial, x6]; rfl⟩, ?_, D, (d1.kept hg ne2).setCell (by have := h.bm; show Bm ≠ L; omega) _, d2, d3⟩, ⟨hB.setCell (p := ⟨L, 0, none⟩) (Nat.le_refl _) _, (KeepsOthers.of_grownBy hg (own_cells h.own)).trans (KeepsOthers.setCell _ _ _), fun q c t f hq h1 h2 => by
    have hqL : q ≠ L := fun e => by subst e; rw [hy] at hq; cases hq; exact h2 rfl
    have hqv : some q ≠ v.ownBlock := fun e => h1 (own_type h.own e.symm hq)
    rw [show (w1.setCell ⟨L, 0, none⟩ (.slice (some ⟨gg, 0, none⟩) (p.length + 1) cap)).heap[q]? = w1.heap[q]? by
      simp only [World.setCell, Array.getElem?_modify]
      rw [if_neg (fun e => hqL e.symm)]]
    exact (hg.block q (Array.getElem?_eq_some_iff.1 hq).1 hqv).trans hq⟩, fun q hq h1 h2 => by
    rw [show (w1.setCell ⟨L, 0, none⟩ (.slice (some ⟨gg, 0, none⟩) (p.length + 1) cap)).heap[q]? = w1.heap[q]? by
      simp only [World.setCell, Array.getElem?_modify]
      rw [if_neg (fun e => h1 e.symm)]]
    exact hg.block q hq h2⟩
  have o1 : ownsI w1 (L + 1) (.slice (some ⟨gg, 0, none⟩) (p.length + 1) cap) (p ++ [x]) := ownsI_snoc rfl hown
  refine ownsI_kept (row := some L) o1 ?_ (fun q hq e => by have := (o1.lt q hq).1; cases e; omega)
  refine ⟨rfl, rfl, rfl, by simp [World.setCell], fun i hi hne => ?_⟩
  simp only [World.setCell, Array.getElem?_modify]
  rw [if_neg (fun e => hne (by rw [e]))]

set_option maxRecDepth 100000 in
set_option maxHeartbeats 1000000 in
theorem testOf_any (c jt jf k : Int) (b : Bool) (n : Int) (w : World) :
    Calls Try.prog 74 #[insV c jt jf k, .bool b, .int .u8 n] w fun e w' => e = .returned (insV (tstI ⟨c, jt, jf, k⟩ b n).c (tstI ⟨c, jt, jf, k⟩ b n).jt (tstI ⟨c, jt, jf, k⟩ b n).jf (tstI ⟨c, jt, jf, k⟩ b n).k) ∧ KB w.heap.size w w' := by
  have HB : Hid (∀ o1 o2, KB w.heap.size w ((w.alloc o1).alloc o2)) := fun o1 o2 => ((KB.refl _ w).alloc (Nat.le_refl _) o1).alloc (by simp) o2
  cases b with
  | true =>
    simp only [tstI, if_true]
    go_enter Try.func74, Try.ntmps74
    go_wp2
    refine bodyPost_ret (v := insV c n 0 k) (by simp [results, Try.results74, go_sem]) rfl ⟨rfl, ?_⟩
    first | exact HB.out _ _ | skip
  | false =>
    simp only [tstI, Bool.false_eq_true, if_false]
    go_enter Try.func74, Try.ntmps74
    go_wp2
    refine bodyPost_ret (v := insV c 0 n k) (by simp [results, Try.results74, go_sem]) rfl ⟨rfl, ?_⟩
    first | exact HB.out _ _ | skip

set_option maxRecDepth 100000 in
set_option maxHeartbeats 2000000 in
theorem add_any (w : World) (L Bm n : Nat) (v : Value) (p : List I) (m : Mk) (x : I) (hS : LayS w L Bm n v p m) (hn : p.length ≤ 1000000) :
    Calls Try.prog 62 #[.pointer (some ⟨L, 0, none⟩), insV x.c x.jt x.jf x.k] w fun e w' => e = .returned (.tuple #[]) ∧ (∃ v', LayS w' L Bm n v' (p ++ [x]) m) ∧ KB L w w' ∧ FarL L v w w' := by
  obtain ⟨c, jt, jf, k⟩ := x
  simp only
  obtain ⟨i0, hi, hz0, hz1, hz2⟩ := info_parts info36
  have hbm : p.length + 1 ≤ maxLen := by unfold maxLen; omega
  have hbd : (p.length + 1) * 8 ≤ 140737488355328 := by omega
  have K0 : KB L w (w.alloc (.cells #[.int .u16 c, .int .u8 jt, .int .u8 jf, .int .u32 k] 51)).drew := (((KB.refl L w).alloc (Nat.le_of_lt hS.lt) _)).drew
  have HFr : Hid (∀ ob w', FarL L v ((w.alloc (.cells #[.int .u16 c, .int .u8 jt, .int .u8 jf, .int .u32 k] 51)).drew.alloc ob) w' → FarL L v w w') := fun ob w' h q hq h1 h2 => by
    have hb : Below w.heap.size w ((w.alloc (.cells #[.int .u16 c, .int .u8 jt, .int .u8 jf, .int .u32 k] 51)).drew.alloc ob) := (((Below.refl _ _).alloc (Nat.le_refl _) _).drew).alloc (by simp) _
    exact (h q (Nat.lt_of_lt_of_le hq hb.size) h1 h2).trans (hb.block q hq)
  have S0 := hS.keep ((Below.refl _ _).alloc (Nat.le_refl _) (.cells #[.int .u16 c, .int .u8 jt, .int .u8 jf, .int .u32 k] 51))
  have q0 : (w.alloc (.cells #[.int .u16 c, .int .u8 jt, .int .u8 jf, .int .u32 k] 51)).cell? ⟨w.heap.size, 0, none⟩ = some (.int .u16 c) := by simp
  have q1 : (w.alloc (.cells #[.int .u16 c, .int .u8 jt, .int .u8 jf, .int .u32 k] 51)).cell? ⟨w.heap.size, 1, none⟩ = some (.int .u8 jt) := by simp
  have q2 : (w.alloc (.cells #[.int .u16 c, .int .u8 jt, .int .u8 jf, .int .u32 k] 51)).cell? ⟨w.heap.size, 2, none⟩ = some (.int .u8 jf) := by simp
  have q3 : (w.alloc (.cells #[.int .u16 c, .int .u8 jt, .int .u8 jf, .int .u32 k] 51)).cell? ⟨w.heap.size, 3, none⟩ = some (.int .u32 k) := by simp
  have hc0 := S0.c0
  go_enter Try.func62, Try.ntmps62
  go_wp2_with fail
  generalize (w.alloc (.cells #[.int .u16 c, .int .u8 jt, .int .u8 jf, .int .u32 k] 51)) = W at *
  have S1 := S0.keep (Below.refl _ _).drew
  have hcd := S1.c0
  have hlt := S1.lt
  have ha : ∀ ob, (W.alloc ob).cell? ⟨L, 0, none⟩ = some v := fun ob => cell_step ((Below.refl _ _).alloc (Nat.le_refl _) ob) S0.c0
  have d0 : W.drew.cell? ⟨w.heap.size, 0, none⟩ = some (.int .u16 c) := q0
  have d1 : W.drew.cell? ⟨w.heap.size, 1, none⟩ = some (.int .u8 jt) := q1
  have d2 : W.drew.cell? ⟨w.heap.size, 2, none⟩ = some (.int .u8 jf) := q2
  have d3 : W.drew.cell? ⟨w.heap.size, 3, none⟩ = some (.int .u32 k) := q3
  go_region_law (refine step_append_lies _ (by rfl) _ _ _ (by rfl) (L + 1) 51 i0 _ 4 8 Try.underlying26 hi hz0 hz1 hz2 rfl (by omega) v p.length (insCells p) (by rfl) (S1.own.alloc _) ⟨W.heap.size, 0, none⟩ 1 1 [.int .u16 c, .int .u8 jt, .int .u8 jf, .int .u32 k] (by rfl) (by rfl) (World.news_of_block (t := 51) (fr := (0, 0)) (heap_alloc_new W.drew _)) (by simp [Value.oneCell']) (by omega) hbm hbd (by simp at hlt ⊢; omega) (W.heap.size + 1) (by simp) ?_; intro gg cap2 w1 hown1 hgrow hat hlt2; obtain ⟨x1, x2, x3, x4, x5⟩ := LayS.next (x := ⟨c, jt, jf, k⟩) (H := 0) (S1.keep ((Below.refl _ _).alloc (Nat.le_refl _) _)) hown1 hgrow)
  all_goals
    have HF : Hid _ := And.intro x3 (And.intro ((K0.trans ((KB.refl L W.drew).alloc (Nat.le_of_lt hlt) _)).trans x4) (HFr.out _ _ x5))
    clear x3 x4 x5 HFr hown1 hgrow hat hlt2 S0 S1 hS K0 q0 q1 q2 q3 hcd ha d0 d1 d2 d3
    go_wp2
    go_end0
    exact ⟨rfl, ⟨_, HF.out.1⟩, HF.out.2⟩
end Go.Proofs.Ytoopomjkapeknaa
