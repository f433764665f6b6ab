/-
  CONTRACT of the model's arithmetic.
-/
import Derived.Test.YtjfgihmamoiipaaSpecM
import Derived.Deep.QuietTactic
import Derived.BigQuiet
namespace Go.Proofs.Ytjfgihmamoiipaa
open Go.RowKit
set_option linter.unusedVariables false

theorem aluL_0 (a v : Int) : aluL 0 a v = (a + v) % 4294967296 := rfl
theorem aluL_1 (a v : Int) : aluL 1 a v = (a - v) % 4294967296 := rfl
theorem aluL_2 (a v : Int) : aluL 2 a v = a * v % 4294967296 := rfl

set_option maxHeartbeats 4000000 in
theorem l1alu_any (op a v : Int) (w : World) (ha : isWord a) (hv : isWord v) (hop : op = 0 ∨ op = 1 ∨ op = 2 ∨ (op = 3 ∧ v ≠ 0) ∨ op = 4 ∨ op = 5 ∨ op = 10 ∨ op = 8 ∨ op = 6 ∨ op = 7) :
    Calls Try.prog 103 #[.int .i64 op, .int .i64 a, .int .i64 v] w fun e w' => e = .returned (.int .i64 (aluL op a v)) ∧ ∃ m, w' = w.drewN m := by
  have HB : Hid (∀ one two, Calls Try.prog 126 #[.int .i64 a, .int .i64 v, .bool one, .bool two] w fun e w' => e = .returned (.int .i64 (bitB one two 32 a v)) ∧ w' = w) := fun one two => l1bits_any a v one two w ha hv
  obtain ⟨a0, a1⟩ := ha
  obtain ⟨v0, v1⟩ := hv
  rcases hop with rfl | rfl | rfl | ⟨rfl, hv0⟩ | rfl | rfl | rfl | rfl | rfl | rfl
  · go_enter Try.func103, Try.ntmps103
    go_wp2
    go_ret
    exact ⟨rfl, 0, rfl⟩
  · go_enter Try.func103, Try.ntmps103
    go_wp2
    go_ret
    exact ⟨ret_int (by rw [aluL_1]; omega), 0, rfl⟩
  · have HM : Hid _ := mul_halves a v
    have b1 : 0 ≤ a % 65536 * v ∧ a % 65536 * v ≤ 65535 * 4294967295 := ⟨Int.mul_nonneg (by omega) v0, Int.mul_le_mul (by omega) v1 v0 (by omega)⟩
    have b2 : 0 ≤ a / 65536 * v ∧ a / 65536 * v ≤ 65535 * 4294967295 := ⟨Int.mul_nonneg (by omega) v0, Int.mul_le_mul (by omega) v1 v0 (by omega)⟩
    go_enter Try.func103, Try.ntmps103
    go_wp2
    go_ret
    exact ⟨ret_int (by rw [aluL_2]; exact HM.out), 0, rfl⟩
  · have hv1 : 1 ≤ v := by omega
    go_enter Try.func103, Try.ntmps103
    go_wp2
    go_ret
    exact ⟨rfl, 0, rfl⟩
  · go_enter Try.func103, Try.ntmps103
    go_wp2_with (go_at_call 126; refine (HB.out _ _).mono ?_; rintro e w' ⟨rfl, rfl⟩)
    go_ret
    exact ⟨rfl, 0, rfl⟩
  · go_enter Try.func103, Try.ntmps103
    go_wp2_with (go_at_call 126; refine (HB.out _ _).mono ?_; rintro e w' ⟨rfl, rfl⟩)
    go_ret
    exact ⟨rfl, 0, rfl⟩
  · go_enter Try.func103, Try.ntmps103
    go_wp2_with (go_at_call 126; refine (HB.out _ _).mono ?_; rintro e w' ⟨rfl, rfl⟩)
    go_ret
    exact ⟨rfl, 0, rfl⟩
  · go_enter Try.func103, Try.ntmps103
    go_wp2
    go_ret
    exact ⟨ret_int (by show _ = -a % 4294967296; omega), 0, rfl⟩
  · by_cases h32 : 32 ≤ v
    · go_enter Try.func103, Try.ntmps103
      go_wp2
      go_ret
      exact ⟨ret_int (by unfold aluL; simp [h32]), 0, rfl⟩
    · have hpl : Hid (aluL 6 a v = a % pw (32 - v.toNat) * pw v.toNat) := by
        unfold Hid
        rw [shl_halves a v.toNat (by omega)]
        unfold aluL
        simp [h32]
      have q1 := pw_pos (32 - v.toNat)
      have q2 := pw_pos v.toNat
      have q3 : pw (32 - v.toNat) ≤ 4294967296 := by rw [← pw_32]; exact pw_le (by omega)
      have q4 : pw v.toNat ≤ 4294967296 := by rw [← pw_32]; exact pw_le (by omega)
      have q5 : a % pw (32 - v.toNat) * pw v.toNat ≤ 4294967295 := by rw [shl_halves a v.toNat (by omega)]; omega
      have q6 : 0 ≤ a % pw (32 - v.toNat) * pw v.toNat := by rw [shl_halves a v.toNat (by omega)]; omega
      have HP : Hid (∀ (q : Int) w1, 0 ≤ q → q ≤ 32 → Calls Try.prog 127 #[.int .i64 q] w1 fun e w' => e = .returned (.int .i64 (pw q.toNat)) ∧ w' = w1) := fun q w1 h1 h2 => by
        have h := l1power_any q.toNat (by omega) w1
        rw [show ((q.toNat : Int)) = q by omega] at h
        exact h
      generalize aluL 6 a v = r at *
      rw [show 32 - v.toNat = (32 - v).toNat by omega] at hpl q1 q3 q5 q6
      have hP1 : ¬ pw (32 - v).toNat = 0 := by omega
      have hP1' : (pw (32 - v).toNat == 0) = false := by simp [hP1]
      have hb : v < 32 := by omega
      have wr1 : IntKind.i64.wrap (32 - v) = 32 - v := by rw [IntKind.wrap_i64]; omega
      clear h32
      go_enter Try.func103, Try.ntmps103
      go_wp2_with fail
      go_quiet ((go_at_call 127; exact Calls.quiet_of_same (HP.out _ _ (by omega) (by omega))))
      go_wp2
      go_ret
      exact ⟨ret_int hpl.out.symm, _, rfl⟩
  · by_cases h32 : 32 ≤ v
    · go_enter Try.func103, Try.ntmps103
      go_wp2
      go_ret
      exact ⟨ret_int (by unfold aluL; simp [h32]), 0, rfl⟩
    · have hpl : Hid (aluL 7 a v = a / pw v.toNat) := by
        unfold Hid aluL
        simp [h32]
      have q2 := pw_pos v.toNat
      have q4 : pw v.toNat ≤ 4294967296 := by rw [← pw_32]; exact pw_le (by omega)
      have HP2 : Hid (∀ w1, Calls Try.prog 127 #[.int .i64 v] w1 fun e w' => e = .returned (.int .i64 (pw v.toNat)) ∧ w' = w1) := fun w1 => by
        have h := l1power_any v.toNat (by omega) w1
        rw [show ((v.toNat : Int)) = v by omega] at h
        exact h
      generalize pw v.toNat = P2 at *
      generalize aluL 7 a v = r at *
      have hb : v < 32 := by omega
      clear h32
      go_enter Try.func103, Try.ntmps103
      go_wp2_with (go_at_call 127; refine (HP2.out _).mono ?_; rintro e w' ⟨rfl, rfl⟩)
      go_ret
      exact ⟨ret_int hpl.out.symm, 0, rfl⟩
end Go.Proofs.Ytjfgihmamoiipaa
