/-
  CONTRACTS of the program's Allows, second part.
-/
import Derived.Test.YtjkmcdgjhfiklaaAlwD
import Derived.Test.YtjkmcdgjhfiklaaPolD
namespace Go.Proofs.Ytjkmcdgjhfiklaa
open Go.RowKit
set_option linter.unusedVariables false

set_option maxRecDepth 100000 in
set_option maxHeartbeats 4000000 in
theorem someRule_any (l : List (List K)) (args : List Int) (a a' : Option Addr) (cap cap' : Nat) (w : World) (hs : LSrc 1 PR w a l) (hu : USrc w a' args) (ho : okRs l) (hok : ∀ y ∈ args, isU64 y) (hv : ∀ t, t < l.length → validR (l.getD t []) = true) (g6 : args.length = 6) (hn : l.length ≤ 200) :
    Calls Try.prog 58 #[.slice a l.length cap, .slice a' 6 cap'] w fun e w' => e = .returned (.bool (l.any fun r => ruleHolds r args)) ∧ Below w.heap.size w w' := by
  have HP : Hid (∀ wr, Below w.heap.size w wr → ∀ i, i < l.length → ∃ b o, a = some ⟨b, o, none⟩ ∧ b < wr.heap.size ∧ PR wr b (o + i * 1) (l.getD i [])) := fun wr hB i hi => (hs.below PR.stays hB).at hi []
  have HR : Hid (∀ t, t < l.length → ∀ w1 a2 cap2, Below w.heap.size w w1 → LSrc 3 PK w1 a2 (l.getD t []) → Calls Try.prog 82 #[.agg #[.slice a2 (l.getD t []).length cap2], .slice a' 6 cap'] w1 fun e w' => e = .returned (.bool (ruleHolds (l.getD t []) args)) ∧ Below w1.heap.size w1 w') := fun t ht w1 a2 cap2 hb hsr => by
    have h6 := (validR_at (hv t ht) 0 (by omega)).1
    have := implRuleHolds_any _ args a2 a' cap2 cap' w1 hsr (hu.below hb) (okRs_at ho t) hok (hv t ht) g6
    rw [h6]; exact this
  have HN : Hid ((∀ i, i < l.length → ruleHolds (l.getD i []) args = false) → (l.any fun r => ruleHolds r args) = false) := fun h => any_no (d := []) h
  have HY : Hid (∀ i, i < l.length → ruleHolds (l.getD i []) args = true → (l.any fun r => ruleHolds r args) = true) := fun i hi h => (any_getD [] (fun r => ruleHolds r args) l).2 ⟨i, hi, h⟩
  obtain ⟨V, hV⟩ : ∃ V, (l.any fun r => ruleHolds r args) = V := ⟨_, rfl⟩
  rw [hV] at HN HY ⊢
  clear hV hs hu ho hok hv g6
  generalize l.length = n at *
  go_enter Try.func58, Try.ntmps58
  go_wp2_with fail
  go_loopw [9] (fun i wr => ∃ k : Nat, k ≤ n ∧ i = .int .i64 k ∧ Hid (∀ j, j < k → ruleHolds (l.getD j []) args = false) ∧ Below w.heap.size w wr) (fun i _ => n - (intOf i).toNat)
  case atStart => exact ⟨0, by omega, rfl, fun j hj => by omega, Below.refl _ _⟩
  case round =>
    obtain ⟨k, hk, rfl, HJ, B⟩ := hrel
    rename World => W0
    by_cases hkn : k < n
    · have hkn' : (k : Int) < (n : Int) := by omega
      obtain ⟨b, o, rfl, hlt, a2, cap2, c0, hsr⟩ := HP.out W0 B k hkn
      have HJ1 : Hid (ruleHolds (l.getD k []) args = false → ∀ s, s < k + 1 → ruleHolds (l.getD s []) args = false) := fun h s hs => by
        by_cases hst : s = k
        · subst hst; exact h
        · exact HJ.out s (by omega)
      have HF1 : Hid (ruleHolds (l.getD k []) args = true → V = true) := fun h => HY.out k hkn h
      have hbx : Below W0.heap.size W0 (W0.alloc (.cells #[.slice a2 (l.getD k []).length cap2] 85)) := (Below.refl _ _).alloc (Nat.le_refl _) _
      have Bx := below_step hbx B
      have HRo : Hid (Calls Try.prog 82 #[.agg #[.slice a2 (l.getD k []).length cap2], .slice a' 6 cap'] (W0.alloc (.cells #[.slice a2 (l.getD k []).length cap2] 85)) fun e w' => e = .returned (.bool (ruleHolds (l.getD k []) args)) ∧ Below (W0.alloc (.cells #[.slice a2 (l.getD k []).length cap2] 85)).heap.size (W0.alloc (.cells #[.slice a2 (l.getD k []).length cap2] 85)) w') := HR.out k hkn _ a2 cap2 Bx (hsr.below PK.stays hbx)
      rw [Nat.mul_one] at c0
      generalize ruleHolds (l.getD k []) args = Q at *
      generalize (l.getD k []).length = m at *
      clear HJ HP HR HN HY hsr
      go_wp2_with fail
      refine (HRo.out).mono ?_
      rintro _ w1 ⟨rfl, hb1⟩
      have B1 := below_step hb1 Bx
      clear hb1 HRo c0
      cases Q with
      | true =>
        have hVf : V = true := HF1.out (by first | rfl | trivial)
        subst hVf
        go_wp2
        go_ret
        exact ⟨rfl, B1⟩
      | false =>
        have HJ2 : Hid (∀ s, s < k + 1 → ruleHolds (l.getD s []) args = false) := HJ1.out (by first | rfl | trivial)
        go_wp2
        go_roundw
        case rel => exact ⟨k + 1, by omega, by go_num, HJ2, B1⟩
        case measure => simp [intOf]; omega
    · have hk' : k = n := by omega
      subst hk'
      have hVf : V = false := HN.out HJ.out
      subst hVf
      go_wp2
      go_ret
      exact ⟨rfl, B⟩

set_option maxHeartbeats 1000000 in
theorem validCall_any (ca cn : Int) (m cap : Nat) (a : Option Addr) (w : World) (hm : m ≤ 16777216) :
    Calls Try.prog 57 #[.agg #[.int .u32 ca, .int .u32 cn, .slice a m cap]] w fun e w' => e = .returned (.bool (m == 6)) ∧ Below w.heap.size w w' := by
  have B : Below w.heap.size w (w.alloc (.cells #[.int .u32 ca, .int .u32 cn, .slice a m cap] 52)) := (Below.refl _ _).alloc (Nat.le_refl _) _
  by_cases h6 : m = 6
  · subst h6
    go_enter Try.func57, Try.ntmps57
    go_wp2
    go_ret
    exact ⟨rfl, B⟩
  · have hb6 : ((m : Int) == 6) = false := by rw [beq_eq_false_iff_ne]; omega
    have hb7 : (m == 6) = false := by rw [beq_eq_false_iff_ne]; exact h6
    rw [hb7]
    go_enter Try.func57, Try.ntmps57
    go_wp2
    go_ret
    exact ⟨rfl, B⟩
end Go.Proofs.Ytjkmcdgjhfiklaa
