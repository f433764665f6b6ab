/-
  CONTRACTS of the program's conditions: valid, made of a Con, the methods of the three sets.
-/
import Derived.Test.YtjkmcdgjhfiklaaCondW
import Derived.Lib.Strings
import Derived.Lib.Slices
import Derived.Lib.Small
import Derived.Lib.Walk
import Derived.Lib.BitFns
namespace Go.Proofs.Ytjkmcdgjhfiklaa
open Go.RowKit
set_option linter.unusedVariables false

/-- a condition inside the program -/
def setV (c : K) : Value :=
  if c.kind = 1 then .iface 106 (.agg #[.int .u64 (c.a : Int), .int .u64 (c.b : Int)])
  else if c.kind = 2 then .iface 110 (.agg #[.int .u64 (c.a : Int), .int .u64 (c.b : Int)])
  else .iface 102 (.agg #[])

theorem u64_xor (a b : Nat) (ha : a < 18446744073709551616) (hb : b < 18446744073709551616) : bits .xor .u64 (a : Int) (b : Int) = ((a ^^^ b : Nat) : Int) := bits_xor_u64_nat a b ha hb
theorem u64_andNot (a b : Nat) (ha : a < 18446744073709551616) (hb : b < 18446744073709551616) : bits .andNot .u64 (a : Int) (b : Int) = ((a &&& inv b : Nat) : Int) := by
  have hx : a &&& inv b < 2 ^ 64 := Nat.and_lt_two_pow _ (inv_lt b)
  have h1 : (BitVec.ofInt 64 (a : Int)).toNat = a := by
    rw [BitVec.ofInt_natCast, BitVec.toNat_ofNat]; exact Nat.mod_eq_of_lt (by omega)
  have h2 : (BitVec.ofInt 64 (b : Int)).toNat = b := by
    rw [BitVec.ofInt_natCast, BitVec.toNat_ofNat]; exact Nat.mod_eq_of_lt (by omega)
  show IntKind.u64.wrap ((BitVec.ofInt 64 (a : Int) &&& ~~~ BitVec.ofInt 64 (b : Int)).toNat : Int) = _
  rw [BitVec.toNat_and, BitVec.toNat_not, h1, h2, IntKind.wrap_u64]
  have e : 2 ^ 64 - 1 - b = inv b := by unfold inv; omega
  rw [e]
  omega
theorem u64_not (a : Nat) (ha : a < 18446744073709551616) : bits .xor .u64 IntKind.u64.max (a : Int) = ((inv a : Nat) : Int) := by
  have e : IntKind.u64.max = ((18446744073709551615 : Nat) : Int) := by decide
  rw [e, u64_xor _ _ (by omega) ha]
  congr 1
  apply Nat.eq_of_testBit_eq
  intro i
  rw [Nat.testBit_xor, bit_inv ha, ← low_64, bit_low]
  by_cases h : i < 64
  · simp [h]
  · simp [h, bit_hi ha (show 64 ≤ i by omega)]
theorem andNot_zero {a b : Nat} (ha : a < 18446744073709551616) (hb : b < 18446744073709551616) : (b &&& inv a == 0) = (a ||| b == a) := by
  rw [Bool.eq_iff_iff, beq_iff_eq, beq_iff_eq]
  constructor
  · intro h
    rw [and_zero_iff] at h
    apply Nat.eq_of_testBit_eq
    intro i
    rw [Nat.testBit_or]
    have := h i
    rw [bit_inv ha] at this
    rcases Nat.lt_or_ge i 64 with h1 | h1
    · revert this
      cases a.testBit i <;> cases b.testBit i <;> simp [h1]
    · rw [bit_hi hb h1, Bool.or_false]
  · exact mask_free ha

set_option maxRecDepth 100000 in
set_option maxHeartbeats 1000000 in
theorem isValidCon_any (c : K) (w : World) (ho : c.ok) :
    Calls Try.prog 36 #[conV c] w fun e w' => e = .returned (.bool (validK c)) ∧ Below w.heap.size w w' := by
  obtain ⟨kind, a, b⟩ := c
  obtain ⟨⟨k0, k1⟩, ha, hb⟩ := ho
  simp only at k0 k1 ha hb
  simp only [conV]
  have B : Below w.heap.size w (w.alloc (.cells #[.int .i64 kind, .int .u64 (a : Int), .int .u64 (b : Int)] 25)) := (Below.refl _ _).alloc (Nat.le_refl _) _
  obtain ⟨V, hV⟩ : ∃ V, validK ⟨kind, a, b⟩ = V := ⟨_, rfl⟩
  have HV : Hid (validK ⟨kind, a, b⟩ = V) := hV
  rw [hV]
  clear hV
  by_cases h0 : kind = 0
  · subst h0
    by_cases ha0 : a = 0
    · subst ha0
      go_enter Try.func36, Try.ntmps36
      go_wp2
      go_ret
      exact ⟨by rw [← HV.out, beq_cast0]; simp [validK], B⟩
    · have ha1 : ¬ (a : Int) = 0 := by omega
      go_enter Try.func36, Try.ntmps36
      go_wp2
      go_ret
      exact ⟨by rw [← HV.out]; simp [validK, ha0], B⟩
  · by_cases h1 : kind = 1
    · subst h1
      have HB : Hid (bits .andNot .u64 (b : Int) (a : Int) = ((b &&& inv a : Nat) : Int)) := u64_andNot b a hb ha
      go_enter Try.func36, Try.ntmps36
      go_wp2
      go_ret
      refine ⟨?_, B⟩
      rw [← HV.out, HB.out, beq_cast0, andNot_zero ha hb]
      simp [validK]
    · by_cases h2 : kind = 2
      · subst h2
        by_cases hab : a ≤ b
        · have hab' : (a : Int) ≤ (b : Int) := by omega
          go_enter Try.func36, Try.ntmps36
          go_wp2
          go_ret
          exact ⟨by rw [← HV.out]; simp [validK, hab], B⟩
        · have hab' : ¬ (a : Int) ≤ (b : Int) := by omega
          go_enter Try.func36, Try.ntmps36
          go_wp2
          go_ret
          exact ⟨by rw [← HV.out]; simp [validK, hab], B⟩
      · go_enter Try.func36, Try.ntmps36
        go_wp2
        go_ret
        exact ⟨by rw [← HV.out]; simp [validK, h0, h1, h2], B⟩

set_option maxRecDepth 100000 in
set_option maxHeartbeats 1000000 in
theorem isLowOnes_any (v : Nat) (w : World) (hv : v < 18446744073709551616) :
    Calls Try.prog 86 #[.int .u64 (v : Int)] w fun e w' => e = .returned (.bool (isLow v)) ∧ w' = w := by
  have HB : Hid (bits .and .u64 (v : Int) (IntKind.u64.wrap ((v : Int) + 1)) = ((v &&& ((v + 1) % 18446744073709551616) : Nat) : Int)) := by
    have e : IntKind.u64.wrap ((v : Int) + 1) = (((v + 1) % 18446744073709551616 : Nat) : Int) := by rw [IntKind.wrap_u64]; omega
    unfold Hid
    rw [e]; exact u64_and v _ hv (by omega)
  go_enter Try.func86, Try.ntmps86
  go_wp2
  go_ret
  refine ⟨?_, rfl⟩
  rw [HB.out, beq_cast0]; rfl

set_option maxRecDepth 100000 in
set_option maxHeartbeats 1000000 in
theorem newMask_any (m v : Nat) (w : World) (hm : m < 18446744073709551616) (hv : v < 18446744073709551616) :
    Calls Try.prog 68 #[.int .u64 (m : Int), .int .u64 (v : Int)] w fun e w' => e = .returned (setV (newMask m v)) ∧ w' = w := by
  by_cases h0 : m = 0
  · subst h0
    go_enter Try.func68, Try.ntmps68
    go_wp2
    go_ret
    exact ⟨rfl, rfl⟩
  · have h1 : ¬ (m : Int) = 0 := by omega
    have HE : Hid (setV (newMask m v) = .iface 106 (.agg #[.int .u64 (m : Int), .int .u64 (v : Int)])) := by unfold Hid newMask; rw [if_neg h0]; rfl
    rw [HE.out]
    go_enter Try.func68, Try.ntmps68
    go_wp2
    go_ret
    exact ⟨rfl, rfl⟩

set_option maxRecDepth 100000 in
set_option maxHeartbeats 1000000 in
theorem newRange_any (l h : Nat) (w : World) (hl : l < 18446744073709551616) (hh : h < 18446744073709551616) :
    Calls Try.prog 69 #[.int .u64 (l : Int), .int .u64 (h : Int)] w fun e w' => e = .returned (setV (newRange l h)) ∧ w' = w := by
  have hx := xor_lt hl hh
  have HX : bits .xor .u64 (l : Int) (h : Int) = ((l ^^^ h : Nat) : Int) := u64_xor l h hl hh
  have HL : Hid (∀ w, Calls Try.prog 86 #[.int .u64 ((l ^^^ h : Nat) : Int)] w fun e w' => e = .returned (.bool (isLow (l ^^^ h))) ∧ w' = w) := fun w => isLowOnes_any _ w hx
  have HM : Hid (∀ w, Calls Try.prog 68 #[.int .u64 ((inv (l ^^^ h) : Nat) : Int), .int .u64 (l : Int)] w fun e w' => e = .returned (setV (newMask (inv (l ^^^ h)) l)) ∧ w' = w) := fun w => newMask_any _ l w (inv_lt _) hl
  have HA : Hid (bits .and .u64 (l : Int) ((l ^^^ h : Nat) : Int) = ((l &&& (l ^^^ h) : Nat) : Int)) := u64_and l _ hl hx
  have HI : Hid (bits .xor .u64 IntKind.u64.max ((l ^^^ h : Nat) : Int) = ((inv (l ^^^ h) : Nat) : Int)) := u64_not _ hx
  by_cases e1 : isLow (l ^^^ h) = true
  · by_cases e2 : l &&& (l ^^^ h) = 0
    · have HE : Hid (newRange l h = newMask (inv (l ^^^ h)) l) := by unfold Hid newRange; rw [if_pos ⟨e1, e2⟩]
      have e2' : bits .and .u64 (l : Int) ((l ^^^ h : Nat) : Int) = 0 := by rw [HA.out, e2]; rfl
      rw [HE.out]
      rw [e1] at HL
      clear HE HA e1 e2
      have e3 := HI.out
      clear HI
      generalize newMask (inv (l ^^^ h)) l = N at *
      generalize inv (l ^^^ h) = I at *
      generalize l ^^^ h = x at *
      go_enter Try.func69, Try.ntmps69
      go_wp2_with fail
      refine (HL.out _).mono ?_
      rintro e w1 ⟨rfl, rfl⟩
      go_wp2_with fail
      refine (HM.out _).mono ?_
      rintro e w1 ⟨rfl, rfl⟩
      go_wp2
      go_ret
      exact ⟨rfl, rfl⟩
    · have HE : Hid (setV (newRange l h) = .iface 110 (.agg #[.int .u64 (l : Int), .int .u64 (h : Int)])) := by unfold Hid newRange; rw [if_neg (fun q => e2 q.2)]; rfl
      have e2' : ¬ bits .and .u64 (l : Int) ((l ^^^ h : Nat) : Int) = 0 := by rw [HA.out]; omega
      rw [HE.out]
      rw [e1] at HL
      clear HE HA e1 e2 HM HI
      generalize l ^^^ h = x at *
      go_enter Try.func69, Try.ntmps69
      go_wp2_with fail
      refine (HL.out _).mono ?_
      rintro e w1 ⟨rfl, rfl⟩
      go_wp2
      go_ret
      exact ⟨rfl, rfl⟩
  · have HE : Hid (setV (newRange l h) = .iface 110 (.agg #[.int .u64 (l : Int), .int .u64 (h : Int)])) := by unfold Hid newRange; rw [if_neg (fun q => e1 q.1)]; rfl
    rw [HE.out]
    rw [Bool.not_eq_true] at e1
    rw [e1] at HL
    clear HE HA e1 HM HI
    generalize l ^^^ h = x at *
    go_enter Try.func69, Try.ntmps69
    go_wp2_with fail
    refine (HL.out _).mono ?_
    rintro e w1 ⟨rfl, rfl⟩
    go_wp2
    go_ret
    exact ⟨rfl, rfl⟩

set_option maxRecDepth 100000 in
set_option maxHeartbeats 1000000 in
theorem conditionOf_any (c : K) (w : World) (ho : c.ok) :
    Calls Try.prog 37 #[conV c] w fun e w' => e = .returned (setV (normK c)) ∧ Below w.heap.size w w' := by
  obtain ⟨kind, a, b⟩ := c
  obtain ⟨⟨k0, k1⟩, ha, hb⟩ := ho
  simp only at k0 k1 ha hb
  simp only [conV]
  have B : Below w.heap.size w (w.alloc (.cells #[.int .i64 kind, .int .u64 (a : Int), .int .u64 (b : Int)] 25)) := (Below.refl _ _).alloc (Nat.le_refl _) _
  by_cases h1 : kind = 1
  · subst h1
    have HE : Hid (normK ⟨1, a, b⟩ = newMask a b) := rfl
    have HM : Hid (∀ w, Calls Try.prog 68 #[.int .u64 (a : Int), .int .u64 (b : Int)] w fun e w' => e = .returned (setV (newMask a b)) ∧ w' = w) := fun w => newMask_any a b w ha hb
    rw [HE.out]
    clear HE
    generalize newMask a b = N at *
    go_enter Try.func37, Try.ntmps37
    go_wp2_with fail
    refine (HM.out _).mono ?_
    rintro e w1 ⟨rfl, rfl⟩
    go_wp2
    go_ret
    exact ⟨rfl, B⟩
  · by_cases h2 : kind = 2
    · subst h2
      have HE : Hid (normK ⟨2, a, b⟩ = newRange a b) := rfl
      have HM : Hid (∀ w, Calls Try.prog 69 #[.int .u64 (a : Int), .int .u64 (b : Int)] w fun e w' => e = .returned (setV (newRange a b)) ∧ w' = w) := fun w => newRange_any a b w ha hb
      rw [HE.out]
      clear HE
      generalize newRange a b = N at *
      go_enter Try.func37, Try.ntmps37
      go_wp2_with fail
      refine (HM.out _).mono ?_
      rintro e w1 ⟨rfl, rfl⟩
      go_wp2
      go_ret
      exact ⟨rfl, B⟩
    · have HE : Hid (setV (normK ⟨kind, a, b⟩) = .iface 102 (.agg #[])) := by simp [Hid, normK, h1, h2, setV]
      rw [HE.out]
      go_enter Try.func37, Try.ntmps37
      go_wp2
      go_ret
      exact ⟨rfl, B⟩
end Go.Proofs.Ytjkmcdgjhfiklaa
