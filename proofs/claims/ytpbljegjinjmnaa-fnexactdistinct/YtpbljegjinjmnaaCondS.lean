/-
  CONTRACTS of the model's conditions: valid, block, normal.
-/
import Derived.Test.YtpbljegjinjmnaaRows
import Derived.Test.YtpbljegjinjmnaaLeaf
import Derived.Test.YtpbljegjinjmnaaMathQ
namespace Go.Proofs.Ytpbljegjinjmnaa
open Go.RowKit
set_option linter.unusedVariables false

abbrev conV (c : K) : Value := .agg #[.int .i64 c.kind, .int .u64 (c.a : Int), .int .u64 (c.b : Int)]

theorem u64_and (a b : Nat) (ha : a < 18446744073709551616) (hb : b < 18446744073709551616) : bits .and .u64 (a : Int) (b : Int) = ((a &&& b : Nat) : Int) := bits_and_u64_nat a b ha hb
theorem u64_or (a b : Nat) (ha : a < 18446744073709551616) (hb : b < 18446744073709551616) : bits .or .u64 (a : Int) (b : Int) = ((a ||| b : Nat) : Int) := bits_or_u64_nat a b ha hb

theorem beq_cast (a b : Nat) : ((a : Int) == (b : Int)) = (a == b) := by rw [Bool.eq_iff_iff, beq_iff_eq, beq_iff_eq]; omega
theorem beq_cast0 (a : Nat) : ((a : Int) == 0) = (a == 0) := by rw [Bool.eq_iff_iff, beq_iff_eq, beq_iff_eq]; omega

set_option maxHeartbeats 1000000 in
theorem eqCon_same (c : K) (w : World) :
    Calls Try.prog 20 #[conV c, conV c] w fun e w' => e = .returned (.bool true) ∧ Below w.heap.size w w' := by
  go_enter Try.func20, Try.ntmps20
  go_wp2
  go_ret
  exact ⟨rfl, ((Below.refl _ _).alloc (Nat.le_refl _) _).alloc (by simp) _⟩

set_option maxRecDepth 100000 in
set_option maxHeartbeats 1000000 in
theorem l3low_any (k : Nat) (w : World) (hk : k ≤ 64) :
    Calls Try.prog 26 #[.int .i64 (k : Int)] w fun e w' => e = .returned (.int .u64 (low k : Nat)) ∧ w' = w := by
  by_cases h64 : k = 64
  · subst h64
    go_enter Try.func26, Try.ntmps26
    go_wp2
    go_ret
    exact ⟨rfl, rfl⟩
  · have hne : ¬ (k : Int) = 64 := by omega
    have HL : Hid (2 ^ k < 18446744073709551616) := Nat.pow_lt_pow_right (a := 2) (by omega) (show k < 64 by omega)
    go_enter Try.func26, Try.ntmps26
    go_wp2
    go_ret
    refine ⟨ret_int ?_, rfl⟩
    have hlt := HL.out
    have hp := Nat.two_pow_pos k
    have e1 : ((2 : Int) ^ k) = ((2 ^ k : Nat) : Int) := by simp
    unfold low
    simp only [e1, IntKind.wrap_u64]
    omega

end Go.Proofs.Ytpbljegjinjmnaa
