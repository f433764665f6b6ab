/-
  CONTRACTS of the program's conditions: the methods of the three sets.
-/
import Derived.Test.YtioabdfddjmabaaCondI
namespace Go.Proofs.Ytioabdfddjmabaa
open Go.RowKit
set_option linter.unusedVariables false

theorem lib_len : ∀ n x : Nat, x ≤ n → x < 18446744073709551616 → Lib.bitLen x = lenN x
  | 0, x, h, _ => by
    have : x = 0 := by omega
    subst this; decide
  | n + 1, x, h, hx => by
    by_cases h0 : x = 0
    · subst h0; decide
    · rw [Lib.bitLen_half x h0 hx, lib_len n (x / 2) (by omega) (by omega)]
      unfold lenN
      by_cases h1 : x = 1
      · subst h1; decide
      · rw [if_neg h0, if_neg (by omega), Nat.log2_def x, if_pos (by omega)]; omega

/-- the table's byte, and what was shifted away -/
theorem len_case {x y : Int} (s : Nat) (h0 : 0 ≤ x) (h1 : x ≤ 18446744073709551615) (hy0 : 0 ≤ y) (hy : y ≤ 255) (e : x.toNat / 2 ^ s = y.toNat) (hs : 2 ^ s ≤ x.toNat) : Lib.len8 y = (Lib.bitLen x.toNat : Int) - s ∧ Lib.bitLen y.toNat ≤ 8 := by
  rw [Lib.len8_of y hy0 hy, Lib.bitLen_shift s x.toNat hs (by omega), e]
  exact ⟨by omega, Lib.bitLen_le8' y hy0 hy⟩
theorem len8_bd {y : Int} (hy0 : 0 ≤ y) (hy : y ≤ 255) : 0 ≤ Lib.len8 y ∧ Lib.len8 y ≤ 8 := by
  have := Lib.bitLen_le8' y hy0 hy
  rw [Lib.len8_of y hy0 hy]; omega

end Go.Proofs.Ytioabdfddjmabaa
