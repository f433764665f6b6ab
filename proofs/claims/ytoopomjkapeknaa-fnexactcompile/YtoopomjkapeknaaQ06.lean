/-
  CondN, CondW, CondI, CondJ
-/
import Derived.Test.YtoopomjkapeknaaQ05
import Derived.Lib.Strings
import Derived.Lib.Slices
import Derived.Lib.Small
import Derived.Lib.Walk
import Derived.Lib.BitFns
namespace Go.Proofs.Ytoopomjkapeknaa
open Go.RowKit
set_option linter.unusedVariables false

/-- a store of three cells into a box -/
theorem BoxK.set3 {w : World} {g : Nat} {x y z : Value} (h : BoxK w g x y z) (x' y' z' : Value) : BoxK (((w.setCell ⟨g, 0, none⟩ x').setCell ⟨g, 1, none⟩ y').setCell ⟨g, 2, none⟩ z') g x' y' z' := by
  obtain ⟨l, c0, c1, c2, f0, f1, f2⟩ := h
  refine ⟨by simp [l], ?_, ?_, ?_, by simp [f0], by simp [f1], by simp [f2]⟩
  · simp [go_sem, c0]
  · simp [go_sem, c1]
  · simp [go_sem, c2]
theorem below_set3 {n : Nat} {w w' : World} {g : Nat} (h : Below n w w') (hg : n ≤ g) (x' y' z' : Value) : Below n w (((w'.setCell ⟨g, 0, none⟩ x').setCell ⟨g, 1, none⟩ y').setCell ⟨g, 2, none⟩ z') :=
  ((h.setCell hg _).setCell hg _).setCell hg _

end Go.Proofs.Ytoopomjkapeknaa
namespace Go.Proofs.Ytoopomjkapeknaa
open Go.RowKit
set_option linter.unusedVariables false

theorem bit_and {a k : Nat} (ha : a < 18446744073709551616) (hk : k < 64) : bits .and .u64 (a : Int) (((low k : Nat) : Int) + 1) = ((a &&& 2 ^ k : Nat) : Int) := by
  have e : ((low k : Nat) : Int) + 1 = ((2 ^ k : Nat) : Int) := by have := low_succ k; omega
  rw [e]
  exact u64_and a _ ha (Nat.pow_lt_pow_right (a := 2) (by omega) hk)
theorem bit_yes {a k : Nat} (ha : a < 18446744073709551616) (hk : k < 64) (h : a.testBit k = true) : ¬ bits .and .u64 (a : Int) (((low k : Nat) : Int) + 1) = 0 := by
  rw [bit_and ha hk]
  intro e
  have := (and_bit a k).1 (by omega)
  rw [h] at this; exact absurd this (by decide)
theorem bit_no {a k : Nat} (ha : a < 18446744073709551616) (hk : k < 64) (h : a.testBit k = false) : bits .and .u64 (a : Int) (((low k : Nat) : Int) + 1) = 0 := by
  rw [bit_and ha hk, (and_bit a k).2 h]; rfl
theorem low_lt64 {k : Nat} (hk : k < 64) : low k + 1 ≤ 9223372036854775808 := by
  rw [low_succ]
  exact Nat.pow_le_pow_right (n := 2) (by omega) (show k ≤ 63 by omega)

theorem ex_dec (P : Prop) : ∃ r : Bool, Hid (r = true ↔ P) := by
  by_cases h : P
  · exact ⟨true, by simp [Hid, h]⟩
  · exact ⟨false, by simp [Hid, h]⟩
theorem dec_yes {P : Prop} {r : Bool} (H : Hid (r = true ↔ P)) (h : P) : r = true := H.out.2 h
theorem dec_no {P : Prop} {r : Bool} (H : Hid (r = true ↔ P)) (h : ¬ P) : r = false := by
  cases r with
  | false => rfl
  | true => exact absurd (H.out.1 rfl) h
theorem dec_eq {P : Prop} {r : Bool} (H : Hid (r = true ↔ P)) {s : Bool} (h : s = true ↔ P) : r = s := by
  rw [Bool.eq_iff_iff, H.out, h]
theorem ret_boolr {r s : Bool} (h : r = s) : Ending.returned (.bool s) = Ending.returned (.bool r) := by rw [h]

end Go.Proofs.Ytoopomjkapeknaa
namespace Go.Proofs.Ytoopomjkapeknaa
open Go.RowKit
set_option linter.unusedVariables false

theorem u64_xor (a b : Nat) (ha : a < 18446744073709551616) (hb : b < 18446744073709551616) : bits .xor .u64 (a : Int) (b : Int) = ((a ^^^ b : Nat) : Int) := bits_xor_u64_nat a b ha hb
theorem u64_andNot (a b : Nat) (ha : a < 18446744073709551616) (hb : b < 18446744073709551616) : bits .andNot .u64 (a : Int) (b : Int) = ((a &&& inv b : Nat) : Int) := by
  have hx : a &&& inv b < 2 ^ 64 := Nat.and_lt_two_pow _ (inv_lt b)
  have h1 : (BitVec.ofInt 64 (a : Int)).toNat = a := by
    rw [BitVec.ofInt_natCast, BitVec.toNat_ofNat]; exact Nat.mod_eq_of_lt (by omega)
  have h2 : (BitVec.ofInt 64 (b : Int)).toNat = b := by
    rw [BitVec.ofInt_natCast, BitVec.toNat_ofNat]; exact Nat.mod_eq_of_lt (by omega)
  show IntKind.u64.wrap ((BitVec.ofInt 64 (a : Int) &&& ~~~ BitVec.ofInt 64 (b : Int)).toNat : Int) = _
  rw [BitVec.toNat_and, BitVec.toNat_not, h1, h2, IntKind.wrap_u64]
  have e : 2 ^ 64 - 1 - b = inv b := by unfold inv; omega
  rw [e]
  omega
theorem u64_not (a : Nat) (ha : a < 18446744073709551616) : bits .xor .u64 IntKind.u64.max (a : Int) = ((inv a : Nat) : Int) := by
  have e : IntKind.u64.max = ((18446744073709551615 : Nat) : Int) := by decide
  rw [e, u64_xor _ _ (by omega) ha]
  congr 1
  apply Nat.eq_of_testBit_eq
  intro i
  rw [Nat.testBit_xor, bit_inv ha, ← low_64, bit_low]
  by_cases h : i < 64
  · simp [h]
  · simp [h, bit_hi ha (show 64 ≤ i by omega)]
theorem andNot_zero {a b : Nat} (ha : a < 18446744073709551616) (hb : b < 18446744073709551616) : (b &&& inv a == 0) = (a ||| b == a) := by
  rw [Bool.eq_iff_iff, beq_iff_eq, beq_iff_eq]
  constructor
  · intro h
    rw [and_zero_iff] at h
    apply Nat.eq_of_testBit_eq
    intro i
    rw [Nat.testBit_or]
    have := h i
    rw [bit_inv ha] at this
    rcases Nat.lt_or_ge i 64 with h1 | h1
    · revert this
      cases a.testBit i <;> cases b.testBit i <;> simp [h1]
    · rw [bit_hi hb h1, Bool.or_false]
  · exact mask_free ha

set_option maxRecDepth 100000 in
set_option maxHeartbeats 1000000 in
theorem isValidCon_any (c : K) (w : World) (ho : c.ok) :
    Calls Try.prog 71 #[conV c] w fun e w' => e = .returned (.bool (validK c)) ∧ Below w.heap.size w w' := by
  obtain ⟨kind, a, b⟩ := c
  obtain ⟨⟨k0, k1⟩, ha, hb⟩ := ho
  simp only at k0 k1 ha hb
  simp only [conV]
  have B : Below w.heap.size w (w.alloc (.cells #[.int .i64 kind, .int .u64 (a : Int), .int .u64 (b : Int)] 93)) := (Below.refl _ _).alloc (Nat.le_refl _) _
  obtain ⟨V, hV⟩ : ∃ V, validK ⟨kind, a, b⟩ = V := ⟨_, rfl⟩
  have HV : Hid (validK ⟨kind, a, b⟩ = V) := hV
  rw [hV]
  clear hV
  by_cases h0 : kind = 0
  · subst h0
    by_cases ha0 : a = 0
    · subst ha0
      go_enter Try.func71, Try.ntmps71
      go_wp2
      go_ret
      exact ⟨by rw [← HV.out, beq_cast0]; simp [validK], B⟩
    · have ha1 : ¬ (a : Int) = 0 := by omega
      go_enter Try.func71, Try.ntmps71
      go_wp2
      go_ret
      exact ⟨by rw [← HV.out]; simp [validK, ha0], B⟩
  · by_cases h1 : kind = 1
    · subst h1
      have HB : Hid (bits .andNot .u64 (b : Int) (a : Int) = ((b &&& inv a : Nat) : Int)) := u64_andNot b a hb ha
      go_enter Try.func71, Try.ntmps71
      go_wp2
      go_ret
      refine ⟨?_, B⟩
      rw [← HV.out, HB.out, beq_cast0, andNot_zero ha hb]
      simp [validK]
    · by_cases h2 : kind = 2
      · subst h2
        by_cases hab : a ≤ b
        · have hab' : (a : Int) ≤ (b : Int) := by omega
          go_enter Try.func71, Try.ntmps71
          go_wp2
          go_ret
          exact ⟨by rw [← HV.out]; simp [validK, hab], B⟩
        · have hab' : ¬ (a : Int) ≤ (b : Int) := by omega
          go_enter Try.func71, Try.ntmps71
          go_wp2
          go_ret
          exact ⟨by rw [← HV.out]; simp [validK, hab], B⟩
      · go_enter Try.func71, Try.ntmps71
        go_wp2
        go_ret
        exact ⟨by rw [← HV.out]; simp [validK, h0, h1, h2], B⟩

end Go.Proofs.Ytoopomjkapeknaa
namespace Go.Proofs.Ytoopomjkapeknaa
open Go.RowKit
set_option linter.unusedVariables false

theorem lib_len : ∀ n x : Nat, x ≤ n → x < 18446744073709551616 → Lib.bitLen x = lenN x
  | 0, x, h, _ => by
    have : x = 0 := by omega
    subst this; decide
  | n + 1, x, h, hx => by
    by_cases h0 : x = 0
    · subst h0; decide
    · rw [Lib.bitLen_half x h0 hx, lib_len n (x / 2) (by omega) (by omega)]
      unfold lenN
      by_cases h1 : x = 1
      · subst h1; decide
      · rw [if_neg h0, if_neg (by omega), Nat.log2_def x, if_pos (by omega)]; omega

/-- the table's byte, and what was shifted away -/
theorem len_case {x y : Int} (s : Nat) (h0 : 0 ≤ x) (h1 : x ≤ 18446744073709551615) (hy0 : 0 ≤ y) (hy : y ≤ 255) (e : x.toNat / 2 ^ s = y.toNat) (hs : 2 ^ s ≤ x.toNat) : Lib.len8 y = (Lib.bitLen x.toNat : Int) - s ∧ Lib.bitLen y.toNat ≤ 8 := by
  rw [Lib.len8_of y hy0 hy, Lib.bitLen_shift s x.toNat hs (by omega), e]
  exact ⟨by omega, Lib.bitLen_le8' y hy0 hy⟩
theorem len8_bd {y : Int} (hy0 : 0 ≤ y) (hy : y ≤ 255) : 0 ≤ Lib.len8 y ∧ Lib.len8 y ≤ 8 := by
  have := Lib.bitLen_le8' y hy0 hy
  rw [Lib.len8_of y hy0 hy]; omega

end Go.Proofs.Ytoopomjkapeknaa
