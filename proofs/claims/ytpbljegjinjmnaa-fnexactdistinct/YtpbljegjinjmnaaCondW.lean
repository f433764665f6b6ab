/-
  CONTRACTS of the model's conditions: one within another.
-/
import Derived.Test.YtpbljegjinjmnaaCondN
namespace Go.Proofs.Ytpbljegjinjmnaa
open Go.RowKit
set_option linter.unusedVariables false

theorem bit_and {a k : Nat} (ha : a < 18446744073709551616) (hk : k < 64) : bits .and .u64 (a : Int) (((low k : Nat) : Int) + 1) = ((a &&& 2 ^ k : Nat) : Int) := by
  have e : ((low k : Nat) : Int) + 1 = ((2 ^ k : Nat) : Int) := by have := low_succ k; omega
  rw [e]
  exact u64_and a _ ha (Nat.pow_lt_pow_right (a := 2) (by omega) hk)
theorem bit_yes {a k : Nat} (ha : a < 18446744073709551616) (hk : k < 64) (h : a.testBit k = true) : ¬ bits .and .u64 (a : Int) (((low k : Nat) : Int) + 1) = 0 := by
  rw [bit_and ha hk]
  intro e
  have := (and_bit a k).1 (by omega)
  rw [h] at this; exact absurd this (by decide)
theorem bit_no {a k : Nat} (ha : a < 18446744073709551616) (hk : k < 64) (h : a.testBit k = false) : bits .and .u64 (a : Int) (((low k : Nat) : Int) + 1) = 0 := by
  rw [bit_and ha hk, (and_bit a k).2 h]; rfl
theorem low_lt64 {k : Nat} (hk : k < 64) : low k + 1 ≤ 9223372036854775808 := by
  rw [low_succ]
  exact Nat.pow_le_pow_right (n := 2) (by omega) (show k ≤ 63 by omega)

theorem ex_dec (P : Prop) : ∃ r : Bool, Hid (r = true ↔ P) := by
  by_cases h : P
  · exact ⟨true, by simp [Hid, h]⟩
  · exact ⟨false, by simp [Hid, h]⟩
theorem dec_yes {P : Prop} {r : Bool} (H : Hid (r = true ↔ P)) (h : P) : r = true := H.out.2 h
theorem dec_no {P : Prop} {r : Bool} (H : Hid (r = true ↔ P)) (h : ¬ P) : r = false := by
  cases r with
  | false => rfl
  | true => exact absurd (H.out.1 rfl) h
theorem dec_eq {P : Prop} {r : Bool} (H : Hid (r = true ↔ P)) {s : Bool} (h : s = true ↔ P) : r = s := by
  rw [Bool.eq_iff_iff, H.out, h]
theorem ret_boolr {r s : Bool} (h : r = s) : Ending.returned (.bool s) = Ending.returned (.bool r) := by rw [h]

end Go.Proofs.Ytpbljegjinjmnaa
