/-
  CONTRACTS of the program's Allows, third part.
-/
import Derived.Test.YtjkmcdgjhfiklaaAlwE
import Derived.Test.YtjkmcdgjhfiklaaAlwC
namespace Go.Proofs.Ytjkmcdgjhfiklaa
open Go.RowKit
set_option linter.unusedVariables false

theorem valid_rules {p : List E} (h : validP p = true) {i : Nat} (hi : i < p.length) : ∀ t, t < (p.getD i E.zero).rules.length → validR ((p.getD i E.zero).rules.getD t []) = true := by
  have h1 := validP_step h hi
  rw [stepOk, Bool.and_eq_true, validE, Bool.and_eq_true, Bool.and_eq_true] at h1
  exact fun t ht => (all_getD [] validR _).1 h1.2.2 t ht

set_option maxRecDepth 100000 in
set_option maxHeartbeats 4000000 in
theorem implAllows_yes (p : List E) (c : C) (a a' : Option Addr) (cap cap' : Nat) (w : World) (hs : LSrc 3 PE w a p) (hu : USrc w a' c.args) (ho : okP p) (hok : ∀ y ∈ c.args, isU64 y) (hn : p.length ≤ 16777216) (hv : validP p = true) (g6 : c.args.length = 6)
    (HV : Hid (∀ w1, Below w.heap.size w w1 → Calls Try.prog 20 #[.agg #[.slice a p.length cap]] w1 fun e w' => e = .returned (.bool true) ∧ Below w1.heap.size w1 w')) :
    Calls Try.prog 25 #[.agg #[.slice a p.length cap], .agg #[.int .u32 c.arch, .int .u32 c.nr, .slice a' 6 cap']] w fun e w' => e = .returned (.bool (p.any fun e => hits e c)) ∧ Below w.heap.size w w' := by
  have HC : Hid (∀ w1, Calls Try.prog 57 #[.agg #[.int .u32 c.arch, .int .u32 c.nr, .slice a' 6 cap']] w1 fun e w' => e = .returned (.bool true) ∧ Below w1.heap.size w1 w') := fun w1 => validCall_any _ _ 6 cap' a' w1 (by omega)
  have HP : Hid (∀ wr, Below w.heap.size w wr → ∀ i, i < p.length → ∃ b o, a = some ⟨b, o, none⟩ ∧ b < wr.heap.size ∧ PE wr b (o + i * 3) (p.getD i E.zero)) := fun wr hB i hi => (hs.below PE.stays hB).at hi E.zero
  have HN : Hid ((∀ i, i < p.length → meets (p.getD i E.zero) c = false) → (p.any fun e => hits e c) = false) := fun h => any_no (d := E.zero) (fun i hi => by rw [hits, h i hi, Bool.false_and])
  have HY : Hid (∀ i, i < p.length → meets (p.getD i E.zero) c = true → (p.any fun e => hits e c) = (p.getD i E.zero).rules.any fun r => ruleHolds r c.args) := fun i hi h => allows_first hv hi h
  have HR : Hid (∀ i, i < p.length → ∀ w1 a2 cap2, Below w.heap.size w w1 → LSrc 1 PR w1 a2 (p.getD i E.zero).rules → Calls Try.prog 58 #[.slice a2 (p.getD i E.zero).rules.length cap2, .slice a' 6 cap'] w1 fun e w' => e = .returned (.bool ((p.getD i E.zero).rules.any fun r => ruleHolds r c.args)) ∧ Below w1.heap.size w1 w') := fun i hi w1 a2 cap2 hb hsr =>
    someRule_any _ c.args a2 a' cap2 cap' w1 hsr (hu.below hb) (okP_at ho i).2.2 hok (valid_rules hv hi) g6 (valid_entry hv hi).1
  have HM : Hid (∀ e : E, meets e c = (e.arch == c.arch && e.nr == c.nr)) := fun e => rfl
  have B : Below w.heap.size w ((w.alloc (.cells #[.slice a p.length cap] 42)).alloc (.cells #[.int .u32 c.arch, .int .u32 c.nr, .slice a' 6 cap'] 52)) := ((Below.refl _ _).alloc (Nat.le_refl _) _).alloc (by simp) _
  have x0 := cell_step ((Below.refl _ _).alloc (Nat.le_refl _) (.cells #[.int .u32 c.arch, .int .u32 c.nr, .slice a' 6 cap'] 52)) (box1 w 42 (.slice a p.length cap))
  have Y := BoxK.new (w.alloc (.cells #[.slice a p.length cap] 42)) 52 (.int .u32 c.arch) (.int .u32 c.nr) (.slice a' 6 cap')
  have hsz : (w.alloc (.cells #[.slice a p.length cap] 42)).heap.size = w.heap.size + 1 := by simp
  rw [hsz] at Y
  clear hsz
  obtain ⟨V, hV⟩ : ∃ V, (p.any fun e => hits e c) = V := ⟨_, rfl⟩
  rw [hV] at HN HY ⊢
  clear hV hs hu ho hok hv g6
  generalize p.length = n at *
  obtain ⟨carch, cnr, args⟩ := c
  simp only at *
  go_enter Try.func25, Try.ntmps25
  go_wp2_with fail
  refine (HV.out _ B).mono ?_
  rintro _ w1 ⟨rfl, hb1⟩
  have B1 := below_step hb1 B
  have x1 := cell_step hb1 x0
  have Y1 := Y.keep hb1
  have y0 := Y1.c0
  have y1 := Y1.c1
  have y2 := Y1.c2
  clear hb1 B x0 Y HV
  go_wp2_with fail
  refine (HC.out _).mono ?_
  rintro _ w2 ⟨rfl, hb2⟩
  have B2 := below_step hb2 B1
  have x2 := cell_step hb2 x1
  have Y2 := Y1.keep hb2
  clear hb2 B1 x1 Y1 y0 y1 y2 HC
  go_wp2_with fail
  go_loopw [18] (fun i wr => ∃ k : Nat, k ≤ n ∧ i = .int .i64 k ∧ Hid (∀ j, j < k → meets (p.getD j E.zero) ⟨carch, cnr, args⟩ = false) ∧ BoxK wr (w.heap.size + 1) (.int .u32 carch) (.int .u32 cnr) (.slice a' 6 cap') ∧ Below w.heap.size w wr) (fun i _ => n - (intOf i).toNat)
  case atStart => exact ⟨0, by omega, rfl, fun j hj => by omega, Y2, B2⟩
  case round =>
    clear B2 x2 Y2
    obtain ⟨k, hk, rfl, HJ0, Y, B⟩ := hrel
    rename World => W0
    by_cases hkn : k < n
    · have hkn' : (k : Int) < (n : Int) := by omega
      have HStep : Hid (meets (p.getD k E.zero) ⟨carch, cnr, args⟩ = false → ∀ j, j < k + 1 → meets (p.getD j E.zero) ⟨carch, cnr, args⟩ = false) := fun h j hj => by
        by_cases hjk : j = k
        · subst hjk; exact h
        · exact HJ0.out j (by omega)
      have HYes := HY.out k hkn
      have HRk := HR.out k hkn
      have HMk := HM.out (p.getD k E.zero)
      obtain ⟨b, o, rfl, hlt, c0, c1, ar, capr, c2, hsr⟩ := HP.out W0 B k hkn
      generalize hhq : meets (p.getD k E.zero) ⟨carch, cnr, args⟩ = Hq at *
      clear hhq
      generalize p.getD k E.zero = e at *
      obtain ⟨arch, nr, rules⟩ := e
      simp only at c0 c1 c2 hsr HRk HMk HYes
      generalize (rules.any fun r => ruleHolds r args) = A at *
      have Xe := BoxK.new W0 81 (.int .u32 arch) (.int .u32 nr) (.slice ar rules.length capr)
      have Bx : Below W0.heap.size W0 (W0.alloc (.cells #[.int .u32 arch, .int .u32 nr, .slice ar rules.length capr] 81)) := (Below.refl _ _).alloc (Nat.le_refl _) _
      have HRo : Hid (Calls Try.prog 58 #[.slice ar rules.length capr, .slice a' 6 cap'] (W0.alloc (.cells #[.int .u32 arch, .int .u32 nr, .slice ar rules.length capr] 81)) fun e w' => e = .returned (.bool A) ∧ Below (W0.alloc (.cells #[.int .u32 arch, .int .u32 nr, .slice ar rules.length capr] 81)).heap.size (W0.alloc (.cells #[.int .u32 arch, .int .u32 nr, .slice ar rules.length capr] 81)) w') := HRk _ ar capr (below_step Bx B) (hsr.below PR.stays Bx)
      have HYk : Hid (Hq = true → V = A) := HYes
      have HMk' : Hid (Hq = (arch == carch && nr == cnr)) := HMk
      clear hsr HP HN HY HR HM HJ0 HRk HYes HMk
      generalize rules.length = m at *
      have Y1 := Y.keep Bx
      have hny := World.new_ne W0 _ Y.c0
      have y0 := Y1.c0
      have y1 := Y1.c1
      have y2 := Y1.c2
      have B6 := below_step Bx B
      by_cases h1 : arch = carch
      · subst h1
        by_cases h2 : nr = cnr
        · subst h2
          have hVA : V = A := HYk.out (by rw [HMk'.out]; simp)
          subst hVA
          clear HMk' HYk HStep
          go_wp2_with fail
          refine (HRo.out).mono ?_
          rintro _ w5 ⟨rfl, hb5⟩
          have B7 := below_step hb5 B6
          go_wp2
          go_ret
          exact ⟨rfl, B7⟩
        · have hb2 : (nr == cnr) = false := by rw [beq_eq_false_iff_ne]; exact h2
          have HG : Hid (∀ j, j < k + 1 → meets (p.getD j E.zero) ⟨arch, cnr, args⟩ = false) := HStep.out (by rw [HMk'.out]; simp [h2])
          clear HStep HMk' HYk HRo
          go_wp2
          go_roundw
          case rel => exact ⟨k + 1, by omega, by go_num, HG, Y1, B6⟩
          case measure => simp [intOf]; omega
      · have hb1 : (arch == carch) = false := by rw [beq_eq_false_iff_ne]; exact h1
        have HG : Hid (∀ j, j < k + 1 → meets (p.getD j E.zero) ⟨carch, cnr, args⟩ = false) := HStep.out (by rw [HMk'.out]; simp [h1])
        clear HStep HMk' HYk HRo
        go_wp2
        go_roundw
        case rel => exact ⟨k + 1, by omega, by go_num, HG, Y1, B6⟩
        case measure => simp [intOf]; omega
    · have hk' : k = n := by omega
      subst hk'
      have hVf : V = false := HN.out HJ0.out
      subst hVf
      go_wp2
      go_ret
      exact ⟨rfl, B⟩

set_option maxRecDepth 100000 in
set_option maxHeartbeats 4000000 in
theorem implAllows_no1 (n m ca cn : Nat) (x y : Int) (a a' : Option Addr) (cap cap' : Nat) (w : World)
    (HV : Hid (∀ w1, Below w.heap.size w w1 → Calls Try.prog 20 #[.agg #[.slice a n cap]] w1 fun e w' => e = .returned (.bool false) ∧ Below w1.heap.size w1 w')) :
    Calls Try.prog 25 #[.agg #[.slice a n cap], .agg #[.int .u32 x, .int .u32 y, .slice a' m cap']] w fun e w' => e = .returned (.bool false) ∧ Below w.heap.size w w' := by
  have B : Below w.heap.size w ((w.alloc (.cells #[.slice a n cap] 42)).alloc (.cells #[.int .u32 x, .int .u32 y, .slice a' m cap'] 52)) := ((Below.refl _ _).alloc (Nat.le_refl _) _).alloc (by simp) _
  go_enter Try.func25, Try.ntmps25
  go_wp2_with fail
  refine (HV.out _ B).mono ?_
  rintro _ w1 ⟨rfl, hb1⟩
  have B1 := below_step hb1 B
  go_wp2
  go_ret
  exact ⟨rfl, B1⟩

set_option maxRecDepth 100000 in
set_option maxHeartbeats 4000000 in
theorem implAllows_no2 (n m : Nat) (x y : Int) (a a' : Option Addr) (cap cap' : Nat) (w : World)
    (HV : Hid (∀ w1, Below w.heap.size w w1 → Calls Try.prog 20 #[.agg #[.slice a n cap]] w1 fun e w' => e = .returned (.bool true) ∧ Below w1.heap.size w1 w'))
    (HC : Hid (∀ w1, Calls Try.prog 57 #[.agg #[.int .u32 x, .int .u32 y, .slice a' m cap']] w1 fun e w' => e = .returned (.bool false) ∧ Below w1.heap.size w1 w')) :
    Calls Try.prog 25 #[.agg #[.slice a n cap], .agg #[.int .u32 x, .int .u32 y, .slice a' m cap']] w fun e w' => e = .returned (.bool false) ∧ Below w.heap.size w w' := by
  have B : Below w.heap.size w ((w.alloc (.cells #[.slice a n cap] 42)).alloc (.cells #[.int .u32 x, .int .u32 y, .slice a' m cap'] 52)) := ((Below.refl _ _).alloc (Nat.le_refl _) _).alloc (by simp) _
  have Y := BoxK.new (w.alloc (.cells #[.slice a n cap] 42)) 52 (.int .u32 x) (.int .u32 y) (.slice a' m cap')
  have hsz : (w.alloc (.cells #[.slice a n cap] 42)).heap.size = w.heap.size + 1 := by simp
  rw [hsz] at Y
  clear hsz
  go_enter Try.func25, Try.ntmps25
  go_wp2_with fail
  refine (HV.out _ B).mono ?_
  rintro _ w1 ⟨rfl, hb1⟩
  have B1 := below_step hb1 B
  have Y1 := Y.keep hb1
  have y0 := Y1.c0
  have y1 := Y1.c1
  have y2 := Y1.c2
  go_wp2_with fail
  refine (HC.out _).mono ?_
  rintro _ w2 ⟨rfl, hb2⟩
  have B2 := below_step hb2 B1
  go_wp2
  go_ret
  exact ⟨rfl, B2⟩

theorem implAllows_any (p : List E) (c : C) (a a' : Option Addr) (cap cap' : Nat) (w : World) (hs : LSrc 3 PE w a p) (hu : USrc w a' c.args) (ho : okP p) (hok : ∀ y ∈ c.args, isU64 y) (hl : c.args.length ≤ 16777216) (hn : p.length ≤ 16777216) (hm : ∀ e ∈ p, e.rules.length ≤ 16777216) (hm2 : ∀ e ∈ p, ∀ r ∈ e.rules, r.length ≤ 16777216) :
    Calls Try.prog 25 #[.agg #[.slice a p.length cap], .agg #[.int .u32 c.arch, .int .u32 c.nr, .slice a' c.args.length cap']] w fun e w' => e = .returned (.bool (allowsP p c)) ∧ Below w.heap.size w w' := by
  have HV : ∀ w1, Below w.heap.size w w1 → Calls Try.prog 20 #[.agg #[.slice a p.length cap]] w1 fun e w' => e = .returned (.bool (validP p)) ∧ Below w1.heap.size w1 w' := fun w1 hb => implValidP_any p a cap w1 (hs.below PE.stays hb) ho hn hm hm2
  rw [allowsP_eq]
  cases hv : validP p with
  | false =>
    rw [hv] at HV
    exact implAllows_no1 _ _ 0 0 _ _ _ _ _ _ w HV
  | true =>
    rw [hv] at HV
    by_cases g6 : c.args.length = 6
    · have := implAllows_yes p c a a' cap cap' w hs hu ho hok hn hv g6 HV
      rw [g6]
      simpa using this
    · have hb7 : (c.args.length == 6) = false := by rw [beq_eq_false_iff_ne]; exact g6
      rw [hb7]
      refine implAllows_no2 _ _ _ _ _ _ _ _ w HV (fun w1 => ?_)
      have := validCall_any c.arch c.nr c.args.length cap' a' w1 hl
      rw [hb7] at this
      exact this
end Go.Proofs.Ytjkmcdgjhfiklaa
