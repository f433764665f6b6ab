/-
  CONTRACTS of the model's conditions: valid, block, normal.
-/
import Derived.Test.YtjkmcdgjhfiklaaRows
import Derived.Test.YtjkmcdgjhfiklaaLeaf
import Derived.Test.YtjkmcdgjhfiklaaMathQ
namespace Go.Proofs.Ytjkmcdgjhfiklaa
open Go.RowKit
set_option linter.unusedVariables false

abbrev conV (c : K) : Value := .agg #[.int .i64 c.kind, .int .u64 (c.a : Int), .int .u64 (c.b : Int)]

theorem u64_and (a b : Nat) (ha : a < 18446744073709551616) (hb : b < 18446744073709551616) : bits .and .u64 (a : Int) (b : Int) = ((a &&& b : Nat) : Int) := bits_and_u64_nat a b ha hb
theorem u64_or (a b : Nat) (ha : a < 18446744073709551616) (hb : b < 18446744073709551616) : bits .or .u64 (a : Int) (b : Int) = ((a ||| b : Nat) : Int) := bits_or_u64_nat a b ha hb

theorem beq_cast (a b : Nat) : ((a : Int) == (b : Int)) = (a == b) := by rw [Bool.eq_iff_iff, beq_iff_eq, beq_iff_eq]; omega
theorem beq_cast0 (a : Nat) : ((a : Int) == 0) = (a == 0) := by rw [Bool.eq_iff_iff, beq_iff_eq, beq_iff_eq]; omega

set_option maxHeartbeats 1000000 in
theorem toCon_any (c : K) (w : World) :
    Calls Try.prog 10 #[conV c] w fun e w' => e = .returned (conV c) ∧ Below w.heap.size w w' := by
  go_enter Try.func10, Try.ntmps10
  go_wp2
  refine bodyPost_ret (v := conV c) (by simp [results, Try.results10, go_sem]) rfl ⟨rfl, ?_⟩
  exact (((Below.refl _ _).alloc (Nat.le_refl _) _).alloc (by simp) _).alloc (by simp; omega) _

set_option maxHeartbeats 1000000 in
theorem eqCon_same (c : K) (w : World) :
    Calls Try.prog 12 #[conV c, conV c] w fun e w' => e = .returned (.bool true) ∧ Below w.heap.size w w' := by
  go_enter Try.func12, Try.ntmps12
  go_wp2
  go_ret
  exact ⟨rfl, ((Below.refl _ _).alloc (Nat.le_refl _) _).alloc (by simp) _⟩

set_option maxRecDepth 100000 in
set_option maxHeartbeats 1000000 in
theorem l3low_any (k : Nat) (w : World) (hk : k ≤ 64) :
    Calls Try.prog 45 #[.int .i64 (k : Int)] w fun e w' => e = .returned (.int .u64 (low k : Nat)) ∧ w' = w := by
  by_cases h64 : k = 64
  · subst h64
    go_enter Try.func45, Try.ntmps45
    go_wp2
    go_ret
    exact ⟨rfl, rfl⟩
  · have hne : ¬ (k : Int) = 64 := by omega
    have HL : Hid (2 ^ k < 18446744073709551616) := Nat.pow_lt_pow_right (a := 2) (by omega) (show k < 64 by omega)
    go_enter Try.func45, Try.ntmps45
    go_wp2
    go_ret
    refine ⟨ret_int ?_, rfl⟩
    have hlt := HL.out
    have hp := Nat.two_pow_pos k
    have e1 : ((2 : Int) ^ k) = ((2 ^ k : Nat) : Int) := by simp
    unfold low
    simp only [e1, IntKind.wrap_u64]
    omega

set_option maxRecDepth 100000 in
set_option maxHeartbeats 1000000 in
theorem l3conOK_any (c : K) (w : World) (ho : c.ok) :
    Calls Try.prog 34 #[conV c] w fun e w' => e = .returned (.bool (validK c)) ∧ Below w.heap.size w w' := by
  obtain ⟨kind, a, b⟩ := c
  obtain ⟨⟨k0, k1⟩, ha, hb⟩ := ho
  simp only at k0 k1 ha hb
  simp only [conV]
  have B : Below w.heap.size w (w.alloc (.cells #[.int .i64 kind, .int .u64 (a : Int), .int .u64 (b : Int)] 25)) := (Below.refl _ _).alloc (Nat.le_refl _) _
  obtain ⟨V, hV⟩ : ∃ V, validK ⟨kind, a, b⟩ = V := ⟨_, rfl⟩
  have HV : Hid (validK ⟨kind, a, b⟩ = V) := hV
  rw [hV]
  clear hV
  by_cases h0 : kind = 0
  · subst h0
    by_cases ha0 : a = 0
    · subst ha0
      by_cases hb0 : b = 0
      · subst hb0
        go_enter Try.func34, Try.ntmps34
        go_wp2
        go_ret
        exact ⟨by rw [← HV.out]; rfl, B⟩
      · have hb1 : ¬ (b : Int) = 0 := by omega
        go_enter Try.func34, Try.ntmps34
        go_wp2
        go_ret
        exact ⟨by rw [← HV.out, beq_cast0]; simp [validK], B⟩
    · have ha1 : ¬ (a : Int) = 0 := by omega
      go_enter Try.func34, Try.ntmps34
      go_wp2
      go_ret
      exact ⟨by rw [← HV.out]; simp [validK, ha0], B⟩
  · by_cases h1 : kind = 1
    · subst h1
      have HB : Hid (bits .or .u64 (a : Int) (b : Int) = ((a ||| b : Nat) : Int)) := u64_or a b ha hb
      go_enter Try.func34, Try.ntmps34
      go_wp2
      go_ret
      refine ⟨?_, B⟩
      rw [← HV.out, HB.out, beq_cast]
      simp [validK]
    · by_cases h2 : kind = 2
      · subst h2
        by_cases hab : a ≤ b
        · have hab' : (a : Int) ≤ (b : Int) := by omega
          go_enter Try.func34, Try.ntmps34
          go_wp2
          go_ret
          exact ⟨by rw [← HV.out]; simp [validK, hab], B⟩
        · have hab' : ¬ (a : Int) ≤ (b : Int) := by omega
          go_enter Try.func34, Try.ntmps34
          go_wp2
          go_ret
          exact ⟨by rw [← HV.out]; simp [validK, hab], B⟩
      · go_enter Try.func34, Try.ntmps34
        go_wp2
        go_ret
        exact ⟨by rw [← HV.out]; simp [validK, h0, h1, h2], B⟩
end Go.Proofs.Ytjkmcdgjhfiklaa
