/-
  CONTRACTS: the laws' comparison of two conditions.
-/
import Derived.Test.YtpbljegjinjmnaaCondT
namespace Go.Proofs.Ytpbljegjinjmnaa
open Go.RowKit
set_option linter.unusedVariables false

set_option maxRecDepth 100000 in
set_option maxHeartbeats 1000000 in
theorem sameCon_two (c d : K) (w : World) :
    Calls Try.prog 8 #[conV c, conV d] w fun e w' => e = .returned (.bool (decide (c = d))) ∧ Below w.heap.size w w' := by
  obtain ⟨ck, ca, cb⟩ := c
  obtain ⟨dk, da, db⟩ := d
  simp only [conV]
  obtain ⟨R, hR⟩ : ∃ R, decide ((⟨ck, ca, cb⟩ : K) = ⟨dk, da, db⟩) = R := ⟨_, rfl⟩
  have HR : Hid (decide ((⟨ck, ca, cb⟩ : K) = ⟨dk, da, db⟩) = R) := hR
  rw [hR]
  clear hR
  have B : Below w.heap.size w ((w.alloc (.cells #[.int .i64 ck, .int .u64 (ca : Int), .int .u64 (cb : Int)] 28)).alloc (.cells #[.int .i64 dk, .int .u64 (da : Int), .int .u64 (db : Int)] 28)) := ((Below.refl _ _).alloc (Nat.le_refl _) _).alloc (by simp) _
  by_cases h1 : ck = dk
  · subst h1
    by_cases h2 : ca = da
    · subst h2
      by_cases h3 : cb = db
      · subst h3
        have hR : R = true := by rw [← HR.out]; simp
        subst hR
        clear HR
        go_enter Try.func8, Try.ntmps8
        go_wp2
        go_ret
        exact ⟨by simp, B⟩
      · have hR : R = false := by rw [← HR.out]; simp [h3]
        have e3 : ((cb : Int) == (db : Int)) = false := by rw [beq_eq_false_iff_ne]; omega
        subst hR
        clear HR h3
        go_enter Try.func8, Try.ntmps8
        go_wp2
        go_ret
        exact ⟨by simp, B⟩
    · have hR : R = false := by rw [← HR.out]; simp [h2]
      have e2 : ((ca : Int) == (da : Int)) = false := by rw [beq_eq_false_iff_ne]; omega
      subst hR
      clear HR h2
      go_enter Try.func8, Try.ntmps8
      go_wp2
      go_ret
      exact ⟨by simp, B⟩
  · have hR : R = false := by rw [← HR.out]; simp [h1]
    have e1 : (ck == dk) = false := by rw [beq_eq_false_iff_ne]; exact h1
    subst hR
    clear HR h1
    go_enter Try.func8, Try.ntmps8
    go_wp2
    go_ret
    exact ⟨by simp, B⟩

end Go.Proofs.Ytpbljegjinjmnaa
