/-
  CONTRACTS of the model's Allows, second part.
-/
import Derived.Test.YtjkmcdgjhfiklaaAlwA
import Derived.Test.YtjkmcdgjhfiklaaCallS
namespace Go.Proofs.Ytjkmcdgjhfiklaa
open Go.RowKit
set_option linter.unusedVariables false

def hits (e : E) (c : C) : Bool := meets e c && e.rules.any fun r => ruleHolds r c.args
/-- what a valid policy's entries are -/
theorem valid_entry {p : List E} (h : validP p = true) {i : Nat} (hi : i < p.length) : (p.getD i E.zero).rules.length ≤ 200 ∧ ∀ t, t < (p.getD i E.zero).rules.length → ((p.getD i E.zero).rules.getD t []).length = 6 := by
  have h1 := validP_step h hi
  rw [stepOk, Bool.and_eq_true, validE, Bool.and_eq_true, Bool.and_eq_true] at h1
  refine ⟨by simpa using h1.2.1.2, fun t ht => ?_⟩
  have h2 := (all_getD [] validR _).1 h1.2.2 t ht
  rw [validR, Bool.and_eq_true] at h2
  simpa using h2.1

set_option maxRecDepth 100000 in
set_option maxHeartbeats 8000000 in
theorem l3allows_any (p : List E) (c : C) (a a' : Option Addr) (cap cap' : Nat) (w : World) (hs : LSrc 3 PE w a p) (hu : USrc w a' c.args) (ho : okP p) (hok : ∀ y ∈ c.args, isU64 y) (hv : validP p = true) (g6 : c.args.length = 6) (hn : p.length ≤ 16777216) :
    Calls Try.prog 55 #[.agg #[.slice a p.length cap], .agg #[.int .u32 c.arch, .int .u32 c.nr, .slice a' 6 cap']] w fun e w' => e = .returned (.bool (p.any fun e => hits e c)) ∧ Below w.heap.size w w' := by
  have HP : Hid (∀ wr, Below w.heap.size w wr → ∀ i, i < p.length → ∃ b o, a = some ⟨b, o, none⟩ ∧ b < wr.heap.size ∧ PE wr b (o + i * 3) (p.getD i E.zero)) := fun wr hB i hi => (hs.below PE.stays hB).at hi E.zero
  have HN : Hid ((∀ i, i < p.length → hits (p.getD i E.zero) c = false) → (p.any fun e => hits e c) = false) := fun h => any_no (d := E.zero) h
  have HY : Hid (∀ i, i < p.length → hits (p.getD i E.zero) c = true → (p.any fun e => hits e c) = true) := fun i hi h => (any_getD E.zero (fun e => hits e c) p).2 ⟨i, hi, h⟩
  have HR : Hid (∀ i, i < p.length → ∀ t, t < (p.getD i E.zero).rules.length → ∀ w1 a2 cap2, Below w.heap.size w w1 → LSrc 3 PK w1 a2 ((p.getD i E.zero).rules.getD t []) → Calls Try.prog 81 #[.agg #[.slice a2 ((p.getD i E.zero).rules.getD t []).length cap2], .slice a' 6 cap'] w1 fun e w' => e = .returned (.bool (ruleHolds ((p.getD i E.zero).rules.getD t []) c.args)) ∧ Below w1.heap.size w1 w') := fun i hi t ht w1 a2 cap2 hb hsr => by
    have h6 := (valid_entry hv hi).2 t ht
    have := l3ruleHolds_any _ c.args a2 a' cap2 cap' w1 hsr (hu.below hb) (okRs_at (okP_at ho i).2.2 t) hok h6 g6
    rw [h6]; exact this
  have HL : Hid (∀ i, i < p.length → (p.getD i E.zero).rules.length ≤ 200) := fun i hi => (valid_entry hv hi).1
  have HH : Hid (∀ e : E, hits e c = (e.arch == c.arch && e.nr == c.nr && e.rules.any fun r => ruleHolds r c.args)) := fun e => rfl
  have B : Below w.heap.size w ((w.alloc (.cells #[.slice a p.length cap] 42)).alloc (.cells #[.int .u32 c.arch, .int .u32 c.nr, .slice a' 6 cap'] 52)) := ((Below.refl _ _).alloc (Nat.le_refl _) _).alloc (by simp) _
  have x0 := cell_step ((Below.refl _ _).alloc (Nat.le_refl _) (.cells #[.int .u32 c.arch, .int .u32 c.nr, .slice a' 6 cap'] 52)) (box1 w 42 (.slice a p.length cap))
  have Y := BoxK.new (w.alloc (.cells #[.slice a p.length cap] 42)) 52 (.int .u32 c.arch) (.int .u32 c.nr) (.slice a' 6 cap')
  have hsz : (w.alloc (.cells #[.slice a p.length cap] 42)).heap.size = w.heap.size + 1 := by simp
  rw [hsz] at Y
  clear hsz
  obtain ⟨V, hV⟩ : ∃ V, (p.any fun e => hits e c) = V := ⟨_, rfl⟩
  rw [hV] at HN HY ⊢
  clear hV hs hu ho hok hv g6
  generalize p.length = n at *
  obtain ⟨carch, cnr, args⟩ := c
  simp only at *
  go_enter Try.func55, Try.ntmps55
  go_wp2_with fail
  go_loopw [5] (fun i wr => ∃ k : Nat, k ≤ n ∧ i = .int .i64 k ∧ Hid (∀ j, j < k → hits (p.getD j E.zero) ⟨carch, cnr, args⟩ = false) ∧ wr.cell? ⟨w.heap.size, 0, none⟩ = some (.slice a n cap) ∧ BoxK wr (w.heap.size + 1) (.int .u32 carch) (.int .u32 cnr) (.slice a' 6 cap') ∧ Below w.heap.size w wr) (fun i _ => n - (intOf i).toNat)
  case atStart => exact ⟨0, by omega, rfl, fun j hj => by omega, x0, Y, B⟩
  case round =>
    clear B x0 Y
    obtain ⟨k, hk, rfl, HJ0, x0, Y, B⟩ := hrel
    rename World => W0
    by_cases hkn : k < n
    · have hkn' : (k : Int) < (n : Int) := by omega
      have HStep : Hid (hits (p.getD k E.zero) ⟨carch, cnr, args⟩ = false → ∀ j, j < k + 1 → hits (p.getD j E.zero) ⟨carch, cnr, args⟩ = false) := fun h j hj => by
        by_cases hjk : j = k
        · subst hjk; exact h
        · exact HJ0.out j (by omega)
      have HYes : Hid (hits (p.getD k E.zero) ⟨carch, cnr, args⟩ = true → V = true) := HY.out k hkn
      have HRk := HR.out k hkn
      have HHk := HH.out (p.getD k E.zero)
      have hl := HL.out k hkn
      obtain ⟨b, o, rfl, hlt, c0, c1, ar, capr, c2, hsr⟩ := HP.out W0 B k hkn
      have HRl : Hid (∀ wr, Below W0.heap.size W0 wr → ∀ t, t < (p.getD k E.zero).rules.length → ∃ ab ao, ar = some ⟨ab, ao, none⟩ ∧ ab < wr.heap.size ∧ PR wr ab (ao + t * 1) ((p.getD k E.zero).rules.getD t [])) := fun wr hb t ht => (hsr.below PR.stays hb).at ht []
      have HAny : Hid ((∀ s, s < (p.getD k E.zero).rules.length → ruleHolds ((p.getD k E.zero).rules.getD s []) args = false) → ((p.getD k E.zero).rules.any fun r => ruleHolds r args) = false) := fun h => any_no (d := []) h
      have HAyes : Hid (∀ s, s < (p.getD k E.zero).rules.length → ruleHolds ((p.getD k E.zero).rules.getD s []) args = true → ((p.getD k E.zero).rules.any fun r => ruleHolds r args) = true) := fun s hs h => (any_getD [] (fun r => ruleHolds r args) _).2 ⟨s, hs, h⟩
      generalize hhq : hits (p.getD k E.zero) ⟨carch, cnr, args⟩ = Hq at *
      clear hhq
      generalize p.getD k E.zero = e at *
      obtain ⟨arch, nr, rules⟩ := e
      simp only at c0 c1 c2 hsr hl HRk HHk HRl HAny HAyes
      generalize (rules.any fun r => ruleHolds r args) = A at *
      have HRk' : Hid (∀ t, t < rules.length → ∀ w1 a2 cap2, Below w.heap.size w w1 → LSrc 3 PK w1 a2 (rules.getD t []) → Calls Try.prog 81 #[.agg #[.slice a2 (rules.getD t []).length cap2], .slice a' 6 cap'] w1 fun e w' => e = .returned (.bool (ruleHolds (rules.getD t []) args)) ∧ Below w1.heap.size w1 w') := HRk
      clear HRk hsr HP HN HY HR HL HH HJ0
      generalize hmr : rules.length = m at *
      clear hmr
      have Xe := BoxK.new W0 81 (.int .u32 arch) (.int .u32 nr) (.slice ar m capr)
      have Bx : Below W0.heap.size W0 (W0.alloc (.cells #[.int .u32 arch, .int .u32 nr, .slice ar m capr] 81)) := (Below.refl _ _).alloc (Nat.le_refl _) _
      have x1 := cell_step Bx x0
      have Y1 := Y.keep Bx
      have hnx := World.new_ne W0 _ x0
      have hny := World.new_ne W0 _ Y.c0
      have y0 := Y1.c0
      have y1 := Y1.c1
      have y2 := Y1.c2
      by_cases h1 : arch = carch
      · subst h1
        by_cases h2 : nr = cnr
        · subst h2
          have HQ : Hid (Hq = A) := by unfold Hid; rw [HHk]; simp
          clear HHk
          go_wp2_with fail
          clear y0 y1 y2 hnx hny
          go_loopw [7] (fun j wr => ∃ t : Nat, t ≤ m ∧ j = .int .i64 t ∧ Hid (∀ s, s < t → ruleHolds (rules.getD s []) args = false) ∧ BoxK wr W0.heap.size (.int .u32 arch) (.int .u32 nr) (.slice ar m capr) ∧ wr.cell? ⟨w.heap.size, 0, none⟩ = some (.slice (some ⟨b, o, none⟩) n cap) ∧ BoxK wr (w.heap.size + 1) (.int .u32 arch) (.int .u32 nr) (.slice a' 6 cap') ∧ Below W0.heap.size W0 wr) (fun j _ => m - (intOf j).toNat)
          case atStart => exact ⟨0, by omega, rfl, fun s hs => by omega, Xe, x1, Y1, Bx⟩
          case round =>
            clear Xe x1 Bx Y1
            obtain ⟨t, ht, rfl, HJ, Xe, x1, Y1, Bx⟩ := hrel
            have e0 := Xe.c0
            have e1 := Xe.c1
            have e2 := Xe.c2
            have f0 := Y1.c0
            have f1 := Y1.c1
            have f2 := Y1.c2
            by_cases htm : t < m
            · obtain ⟨ab, ao, har, hablt, a2, cap2, r0, hsr2⟩ := HRl.out wr Bx t htm
              have HRo : Hid (Calls Try.prog 81 #[.agg #[.slice a2 (rules.getD t []).length cap2], .slice a' 6 cap'] wr.drew fun e w' => e = .returned (.bool (ruleHolds (rules.getD t []) args)) ∧ Below wr.drew.heap.size wr.drew w') := HRk'.out t htm wr.drew a2 cap2 (below_step Bx B).drew (hsr2.below PK.stays (Below.refl _ _).drew)
              have HJ1 : Hid (ruleHolds (rules.getD t []) args = false → ∀ s, s < t + 1 → ruleHolds (rules.getD s []) args = false) := fun h s hs => by
                by_cases hst : s = t
                · subst hst; exact h
                · exact HJ.out s (by omega)
              have HF1 : Hid (ruleHolds (rules.getD t []) args = true → V = true) := fun h => HYes.out (by rw [HQ.out]; exact HAyes.out t htm h)
              rw [Nat.mul_one] at r0
              generalize ruleHolds (rules.getD t []) args = Q at *
              generalize (rules.getD t []).length = len2 at *
              subst har
              have htm' : (t : Int) < (m : Int) := by omega
              clear HJ hsr2 HRk' HRl HYes HAny HAyes HStep HQ
              go_wp2_with fail
              go_region_with (go_at_call 81; refine (HRo.out).mono ?_; rintro _ w5 ⟨rfl, hb5⟩)
              all_goals
                have hd : Below wr.heap.size wr wr.drew := (Below.refl _ _).drew
                have B5 := below_step hb5 (below_step hd Bx)
                have x5 := cell_step hb5 (cell_step hd x1)
                have X5 := (Xe.keep hd).keep hb5
                have Y5 := (Y1.keep hd).keep hb5
                clear hb5 hd e0 e1 e2 f0 f1 f2 x1 r0 HRo Xe Y1
                cases Q with
                | true =>
                  have hVf : V = true := HF1.out (by first | rfl | trivial)
                  subst hVf
                  go_wp2
                  go_ret
                  exact ⟨rfl, below_step B5 B⟩
                | false =>
                  have HJ2 : Hid (∀ s, s < t + 1 → ruleHolds (rules.getD s []) args = false) := HJ1.out (by first | rfl | trivial)
                  go_wp2
                  go_roundw
                  case rel => exact ⟨t + 1, by omega, by go_num, HJ2, X5, x5, Y5, B5⟩
                  case measure => simp [intOf]; omega
            · have htm' : t = m := by omega
              subst htm'
              have HG : Hid (∀ j, j < k + 1 → hits (p.getD j E.zero) ⟨arch, nr, args⟩ = false) := HStep.out (by rw [HQ.out]; exact HAny.out HJ.out)
              have B6 := below_step Bx B
              clear HStep HQ HAny HAyes HRk' HRl HYes HJ
              go_wp2
              go_roundw
              case rel => exact ⟨k + 1, by omega, by go_num, HG, x1, Y1, B6⟩
              case measure => simp [intOf]; omega
        · have hb2 : (nr != cnr) = true := by rw [bne_iff_ne]; exact h2
          have HG : Hid (∀ j, j < k + 1 → hits (p.getD j E.zero) ⟨arch, cnr, args⟩ = false) := HStep.out (by rw [HHk]; simp [h2])
          have B6 := below_step Bx B
          clear HStep HHk HAny HAyes HRk' HRl HYes
          go_wp2
          go_roundw
          case rel => exact ⟨k + 1, by omega, by go_num, HG, x1, Y1, B6⟩
          case measure => simp [intOf]; omega
      · have hb1 : (arch != carch) = true := by rw [bne_iff_ne]; exact h1
        have HG : Hid (∀ j, j < k + 1 → hits (p.getD j E.zero) ⟨carch, cnr, args⟩ = false) := HStep.out (by rw [HHk]; simp [h1])
        have B6 := below_step Bx B
        clear HStep HHk HAny HAyes HRk' HRl HYes
        go_wp2
        go_roundw
        case rel => exact ⟨k + 1, by omega, by go_num, HG, x1, Y1, B6⟩
        case measure => simp [intOf]; omega
    · have hk' : k = n := by omega
      subst hk'
      have hVf : V = false := HN.out HJ0.out
      subst hVf
      go_wp2
      go_ret
      exact ⟨rfl, B⟩
end Go.Proofs.Ytjkmcdgjhfiklaa
