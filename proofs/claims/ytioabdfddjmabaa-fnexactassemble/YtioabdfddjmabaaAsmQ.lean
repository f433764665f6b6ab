/-
  CONTRACTS of the program's isValidItem, every.
-/
import Derived.Test.YtioabdfddjmabaaAsmC
import Derived.Test.YtioabdfddjmabaaFault
namespace Go.Proofs.Ytioabdfddjmabaa
open Go.RowKit
set_option linter.unusedVariables false

theorem isTst_no {c : Int} (h : tstB c = false) : isTst c = false := by
  unfold isTst
  unfold tstB at h
  simp only [Bool.or_eq_false_iff] at h ⊢
  exact ⟨⟨⟨h.1.1.1.1.1.1.1, h.1.1.1.1.1.1.2⟩, h.1.1.1.1.1.2⟩, h.1.1.1.1.2⟩
theorem tstB_cases {c : Int} (h : tstB c = true) : c = 21 ∨ c = 37 ∨ c = 53 ∨ c = 69 ∨ c = 29 ∨ c = 45 ∨ c = 61 ∨ c = 77 := by
  unfold tstB at h
  simp only [Bool.or_eq_true, beq_iff_eq] at h
  omega

set_option maxRecDepth 100000 in
set_option maxHeartbeats 4000000 in
theorem isValidItem_any (x : It) (w : World) :
    Calls Try.prog 17 #[itV x] w fun e w' => e = .returned (.bool (okIt x)) ∧ Below w.heap.size w w' := by
  obtain ⟨kd, ⟨c, jt, jf, k⟩, tg⟩ := x
  have HK : Hid (∀ w1, Calls Try.prog 26 #[.int .u16 c] w1 fun e w' => e = .returned (.bool (knownB c)) ∧ w' = w1) := fun w1 => by rw [← isKnownB_eq]; exact isKnown_any c w1
  have HT : Hid (∀ w1, Calls Try.prog 27 #[.int .u16 c] w1 fun e w' => e = .returned (.bool (tstB c)) ∧ w' = w1) := fun w1 => isTest_any c w1
  have B0 : Below w.heap.size w (w.alloc (.cells #[.int .i64 kd, .int .u16 c, .int .u8 jt, .int .u8 jf, .int .u32 k, .int .i64 tg] 40)) := (Below.refl _ _).alloc (Nat.le_refl _) _
  simp only [itV]
  by_cases h0 : kd = 0
  · subst h0
    rw [okIt0]
    have HN : Hid ((c != 5) = decide (¬ c = 5)) := by show _ = _; by_cases h : c = 5 <;> simp [h]
    generalize knownB c = V at *
    generalize tstB c = T at *
    go_enter Try.func17, Try.ntmps17
    go_wp2_with fail
    refine (HK.out _).mono ?_
    rintro _ w1 ⟨rfl, rfl⟩
    cases V with
    | false =>
      go_wp2
      go_ret
      exact ⟨rfl, B0⟩
    | true =>
      by_cases h5 : c = 5
      · subst h5
        go_wp2
        go_ret
        exact ⟨rfl, B0⟩
      · have h5' : (c != 5) = true := by simpa using h5
        go_wp2_with fail
        refine (HT.out _).mono ?_
        rintro _ w2 ⟨rfl, rfl⟩
        clear h5
        cases T <;> go_wp2 <;> go_ret <;> exact ⟨ret_bool (by simp [*]), B0⟩
  · by_cases h12 : kd = 1 ∨ kd = 2
    · have hk : okIt ⟨kd, ⟨c, jt, jf, k⟩, tg⟩ = isTst c := by unfold okIt; rw [if_neg h0, if_pos h12]
      rw [hk]
      clear hk
      cases hT : tstB c with
      | false =>
        rw [isTst_no hT]
        rw [hT] at HT
        rcases h12 with rfl | rfl
        all_goals
          go_enter Try.func17, Try.ntmps17
          go_wp2_with fail
          refine (HT.out _).mono ?_
          rintro _ w2 ⟨rfl, rfl⟩
          go_wp2
          go_ret
          exact ⟨rfl, B0⟩
      | true =>
        rw [hT] at HT
        rcases tstB_cases hT with rfl | rfl | rfl | rfl | rfl | rfl | rfl | rfl
        all_goals
          clear HK hT
          rcases h12 with rfl | rfl
        all_goals
          go_enter Try.func17, Try.ntmps17
          go_wp2_with fail
          refine (HT.out _).mono ?_
          rintro _ w2 ⟨rfl, rfl⟩
          go_wp2
          go_ret
          exact ⟨rfl, B0⟩
    · have hk : okIt ⟨kd, ⟨c, jt, jf, k⟩, tg⟩ = (kd == 3 || kd == 4) := by unfold okIt; rw [if_neg h0, if_neg h12]
      rw [hk]
      have h1 : ¬ kd = 1 := fun h => h12 (.inl h)
      have h2 : ¬ kd = 2 := fun h => h12 (.inr h)
      clear hk h12 HK HT
      go_enter Try.func17, Try.ntmps17
      go_wp2
      all_goals go_ret
      all_goals exact ⟨ret_bool (by simp [*]), (Below.refl _ _).alloc (Nat.le_refl _) _⟩

set_option maxRecDepth 100000 in
set_option maxHeartbeats 2000000 in
theorem everyItem_any (r : List It) (a : Option Addr) (cap : Nat) (w : World) (hs : TSrc w a r) (hn : r.length ≤ 16777216) :
    Calls Try.prog 16 #[.slice a r.length cap, .func (.func 17) #[] #[]] w fun e w' => e = .returned (.bool (r.all okIt)) ∧ Below w.heap.size w w' := by
  have HC : Hid (∀ i w, Calls Try.prog 17 #[itV (r.getD i It.zero)] w fun e w' => e = .returned (.bool (okIt (r.getD i It.zero))) ∧ Below w.heap.size w w') := fun i w => isValidItem_any _ w
  have HY : Hid ((∀ i, i < r.length → okIt (r.getD i It.zero) = true) → r.all okIt = true) := fun h => (all_getD It.zero okIt r).2 h
  have HF : Hid (∀ i, i < r.length → okIt (r.getD i It.zero) = false → r.all okIt = false) := fun i hi h => all_no hi h
  have HP : Hid (∀ wr, Below w.heap.size w wr → ∀ i, i < r.length → ∃ b o, a = some ⟨b, o, none⟩ ∧ b < wr.heap.size ∧ PI wr b (o + i * 6) (r.getD i It.zero)) := fun wr hB i hi => (hs.below PI.stays hB).at hi It.zero
  obtain ⟨V, hV⟩ : ∃ V, r.all okIt = V := ⟨_, rfl⟩
  rw [hV] at HY HF ⊢
  clear hV hs
  generalize r.length = n at *
  go_enter Try.func16, Try.ntmps16
  go_wp2_with fail
  go_loopw [9] (fun i wr => ∃ k : Nat, k ≤ n ∧ i = .int .i64 k ∧ Hid (∀ j, j < k → okIt (r.getD j It.zero) = true) ∧ Below w.heap.size w wr) (fun i _ => n - (intOf i).toNat)
  case atStart => exact ⟨0, by omega, rfl, fun j hj => by omega, Below.refl _ _⟩
  case round =>
    obtain ⟨k, hk, rfl, HJ, B⟩ := hrel
    by_cases hkn : k < n
    · obtain ⟨b, o, rfl, hlt, c0, c1, c2, c3, c4, c5⟩ := HP.out wr B k hkn
      have HC1 : Hid (∀ w, Calls Try.prog 17 #[itV (r.getD k It.zero)] w fun e w' => e = .returned (.bool (okIt (r.getD k It.zero))) ∧ Below w.heap.size w w') := HC.out k
      have HF1 : Hid (okIt (r.getD k It.zero) = false → V = false) := HF.out k hkn
      have HJ1 : Hid (okIt (r.getD k It.zero) = true → ∀ j, j < k + 1 → okIt (r.getD j It.zero) = true) := fun h j hj => by
        by_cases hjk : j = k
        · subst hjk; exact h
        · exact HJ.out j (by omega)
      have hkn' : (k : Int) < (n : Int) := by omega
      generalize r.getD k It.zero = c at *
      obtain ⟨kd, ⟨ic, jt, jf, ik⟩, tg⟩ := c
      simp only at c0 c1 c2 c3 c4 c5
      simp only [itV] at HC1
      generalize okIt ⟨kd, ⟨ic, jt, jf, ik⟩, tg⟩ = Q at *
      have B0 : Below w.heap.size w (wr.alloc (.cells #[.int .i64 kd, .int .u16 ic, .int .u8 jt, .int .u8 jf, .int .u32 ik, .int .i64 tg] 40)) := B.alloc B.size _
      clear HC HF HP HJ
      go_wp2_with fail
      refine (HC1.out _).mono ?_
      rintro _ w1 ⟨rfl, hb1⟩
      have B1 := below_step hb1 B0
      clear hb1 c0 c1 c2 c3 c4 c5 B0
      cases Q with
      | false =>
        have hVf : V = false := HF1.out (by first | rfl | trivial)
        subst hVf
        go_wp2
        go_ret
        exact ⟨rfl, B1⟩
      | true =>
        have HJ2 : Hid (∀ j, j < k + 1 → okIt (r.getD j It.zero) = true) := HJ1.out (by first | rfl | trivial)
        go_wp2
        go_roundw
        case rel => exact ⟨k + 1, by omega, by go_num, HJ2, B1⟩
        case measure => simp [intOf]; omega
    · have hk' : k = n := by omega
      subst hk'
      have hVt : V = true := HY.out HJ.out
      subst hVt
      go_wp2
      go_ret
      exact ⟨rfl, B⟩
end Go.Proofs.Ytioabdfddjmabaa
