/-
  PLAIN MATHEMATICS of the conditions over 64-bit numbers: valid ones, their sets, the normal condition, one set within another. No Go in sight.
-/
import Derived.Below
import Derived.Laws.Bits64b
import Derived.Laws.BitsAllLaws
namespace Go.Proofs.Ytjkmcdgjhfiklaa
set_option linter.unusedVariables false

/-- a condition: its three numbers -/
structure K where
  kind : Int
  a : Nat
  b : Nat
deriving DecidableEq

def K.zero : K := ⟨0, 0, 0⟩
def K.ok (c : K) : Prop := (-9223372036854775808 ≤ c.kind ∧ c.kind ≤ 9223372036854775807) ∧ c.a < 18446744073709551616 ∧ c.b < 18446744073709551616
theorem K.zero_ok : K.zero.ok := ⟨⟨by decide, by decide⟩, by decide, by decide⟩

def low (k : Nat) : Nat := 2 ^ k - 1
def inv (x : Nat) : Nat := 18446744073709551615 - x

theorem low_lt (k : Nat) : low k < 2 ^ k := by have := Nat.two_pow_pos k; unfold low; omega
theorem low_succ (k : Nat) : low k + 1 = 2 ^ k := by have := Nat.two_pow_pos k; unfold low; omega
theorem low_64 : low 64 = 18446744073709551615 := by decide
theorem low_le {k : Nat} (h : k ≤ 64) : low k ≤ 18446744073709551615 := by
  have := Nat.pow_le_pow_right (n := 2) (by omega) h
  have e : 2 ^ 64 = 18446744073709551616 := by decide
  unfold low; omega
theorem low_inj {i k : Nat} (h : low i = low k) : i = k := by
  have h1 := low_succ i
  have h2 := low_succ k
  rw [h] at h1
  exact (Nat.pow_right_inj (a := 2) (by omega)).1 (h1.symm.trans h2)
theorem inv_lt (x : Nat) : inv x < 18446744073709551616 := by unfold inv; omega
theorem inv_inv {x : Nat} (h : x < 18446744073709551616) : inv (inv x) = x := by unfold inv; omega
theorem bit_low (k i : Nat) : (low k).testBit i = decide (i < k) := Nat.testBit_two_pow_sub_one k i
theorem bit_inv {x : Nat} (h : x < 18446744073709551616) (i : Nat) : (inv x).testBit i = (decide (i < 64) && !x.testBit i) := by
  have e : inv x = 2 ^ 64 - (x + 1) := by unfold inv; omega
  rw [e]; exact Nat.testBit_two_pow_sub_succ (by omega) i
theorem bit_hi {x : Nat} (h : x < 18446744073709551616) {i : Nat} (hi : 64 ≤ i) : x.testBit i = false := by
  apply Nat.testBit_lt_two_pow
  exact Nat.lt_of_lt_of_le (show x < 2 ^ 64 by omega) (Nat.pow_le_pow_right (by omega) hi)
theorem and_zero_iff (x y : Nat) : x &&& y = 0 ↔ ∀ i, ¬ (x.testBit i = true ∧ y.testBit i = true) := by
  constructor
  · intro h i ⟨h1, h2⟩
    have e : (x &&& y).testBit i = true := by rw [Nat.testBit_and, h1, h2]; rfl
    rw [h, Nat.zero_testBit] at e; exact absurd e (by decide)
  · intro h
    apply Nat.eq_of_testBit_eq
    intro i
    rw [Nat.testBit_and, Nat.zero_testBit]
    have := h i
    revert this
    cases x.testBit i <;> cases y.testBit i <;> simp
theorem and_eq_iff (x y : Nat) : x &&& y = y ↔ ∀ i, y.testBit i = true → x.testBit i = true := by
  constructor
  · intro h i h1
    rw [← h, Nat.testBit_and] at h1
    revert h1
    cases x.testBit i <;> simp
  · intro h
    apply Nat.eq_of_testBit_eq
    intro i
    rw [Nat.testBit_and]
    have := h i
    revert this
    cases x.testBit i <;> cases y.testBit i <;> simp

/-- the ones are exactly the lowest bits -/
def isLow (x : Nat) : Bool := x &&& ((x + 1) % 18446744073709551616) == 0

theorem lowones : ∀ n x : Nat, x ≤ n → x &&& (x + 1) = 0 → ∃ k, x = low k
  | 0, x, hx, _ => ⟨0, (Nat.le_zero.1 hx).trans (by decide)⟩
  | n + 1, x, hx, h => by
    by_cases h0 : x = 0
    · exact ⟨0, by rw [h0]; decide⟩
    by_cases h2 : x % 2 = 1
    · obtain ⟨k, hk⟩ := lowones n (x / 2) (by omega) (by
        have e : (x &&& (x + 1)) / 2 = (x / 2) &&& (x / 2 + 1) := by
          rw [Nat.and_div_two]
          congr 1; omega
        rw [← e, h])
      refine ⟨k + 1, ?_⟩
      have h3 := low_succ k
      have h4 := low_succ (k + 1)
      have h5 : 2 ^ (k + 1) = 2 * 2 ^ k := by rw [Nat.pow_succ]; omega
      omega
    · exfalso
      have e : (x &&& (x + 1)) / 2 = (x / 2) &&& (x / 2) := by
        rw [Nat.and_div_two]
        congr 1; omega
      rw [h, Nat.and_self] at e
      omega

theorem isLow_iff {x : Nat} (hx : x < 18446744073709551616) : isLow x = true ↔ ∃ k, k ≤ 64 ∧ x = low k := by
  unfold isLow
  rw [beq_iff_eq]
  constructor
  · intro h
    by_cases h1 : x = 18446744073709551615
    · exact ⟨64, by omega, by rw [h1, low_64]⟩
    · rw [Nat.mod_eq_of_lt (by omega)] at h
      obtain ⟨k, hk⟩ := lowones x x (Nat.le_refl _) h
      refine ⟨k, ?_, hk⟩
      rcases Nat.lt_or_ge 64 k with h2 | h2
      · exfalso
        have := Nat.pow_le_pow_right (n := 2) (by omega) (show 65 ≤ k from h2)
        have e : 2 ^ 65 = 36893488147419103232 := by decide
        have := low_succ k
        omega
      · exact h2
  · rintro ⟨k, hk, rfl⟩
    by_cases h1 : k = 64
    · subst h1; rw [low_64]; decide
    · have h2 : low k + 1 < 18446744073709551616 := by
        have := Nat.pow_lt_pow_right (a := 2) (by omega) (show k < 64 by omega)
        have e : 2 ^ 64 = 18446744073709551616 := by decide
        rw [low_succ]; omega
      rw [Nat.mod_eq_of_lt h2, low_succ, and_zero_iff]
      rintro i ⟨h3, h4⟩
      rw [bit_low] at h3
      rw [Nat.testBit_two_pow] at h4
      simp at h3 h4
      omega

/-- numbers without a common bit -/
theorem add_low {a k : Nat} (h : a &&& low k = 0) : a + low k = a ||| low k ∧ a ^^^ low k = a ||| low k := by
  have h1 : a % 2 ^ k = 0 := by rw [← Nat.and_two_pow_sub_one_eq_mod]; exact h
  refine ⟨(nat_join k a (low k) h1 (low_lt k)).symm, ?_⟩
  apply Nat.eq_of_testBit_eq
  intro i
  have := (and_zero_iff _ _).1 h i
  rw [Nat.testBit_xor, Nat.testBit_or]
  revert this
  cases a.testBit i <;> cases (low k).testBit i <;> simp
theorem xor_cancel (a b : Nat) : a ^^^ (a ^^^ b) = b := by
  rw [← Nat.xor_assoc, Nat.xor_self, Nat.zero_xor]

/-- a range that is a block of 2^k numbers -/
theorem block_iff {a b k : Nat} (h : a ≤ b) : (b - a = low k ∧ a &&& low k = 0) ↔ (a ^^^ b = low k ∧ a &&& (a ^^^ b) = 0) := by
  constructor
  · rintro ⟨h1, h2⟩
    have e : b = a ^^^ low k := by rw [(add_low h2).2, ← (add_low h2).1]; omega
    have e2 : a ^^^ b = low k := by rw [e, xor_cancel]
    exact ⟨e2, by rw [e2]; exact h2⟩
  · rintro ⟨h1, h2⟩
    rw [h1] at h2
    have e : b = a ^^^ low k := by rw [← h1, xor_cancel]
    rw [(add_low h2).2, ← (add_low h2).1] at e
    exact ⟨by omega, h2⟩

def newMask (m v : Nat) : K := if m = 0 then ⟨0, 0, 0⟩ else ⟨1, m, v⟩
def newRange (l h : Nat) : K := if isLow (l ^^^ h) = true ∧ l &&& (l ^^^ h) = 0 then newMask (inv (l ^^^ h)) l else ⟨2, l, h⟩
def normK (c : K) : K := if c.kind = 1 then newMask c.a c.b else if c.kind = 2 then newRange c.a c.b else ⟨0, 0, 0⟩
def validK (c : K) : Bool := (c.kind == 0 && c.a == 0 && c.b == 0) || (c.kind == 1 && c.a ||| c.b == c.a) || (c.kind == 2 && decide (c.a ≤ c.b))
def holdsK (c : K) (v : Nat) : Bool := if c.kind = 1 then v &&& c.a == c.b else if c.kind = 2 then decide (c.a ≤ v) && decide (v ≤ c.b) else true

theorem xor_lt {a b : Nat} (h : a < 18446744073709551616) (h' : b < 18446744073709551616) : a ^^^ b < 18446744073709551616 := Nat.xor_lt_two_pow (n := 64) h h'
theorem and_lt {a b : Nat} (h : a < 18446744073709551616) : a &&& b < 18446744073709551616 := Nat.lt_of_le_of_lt Nat.and_le_left h
theorem or_lt {a b : Nat} (h : a < 18446744073709551616) (h' : b < 18446744073709551616) : a ||| b < 18446744073709551616 := Nat.or_lt_two_pow (n := 64) h h'

theorem newRange_block {l h k : Nat} (hk : k ≤ 64) (hlh : l ≤ h) (hh : h < 18446744073709551616) (e : h - l = low k) (e2 : l &&& low k = 0) :
    newRange l h = if k = 64 then ⟨0, 0, 0⟩ else ⟨1, inv (low k), l⟩ := by
  obtain ⟨h1, h2⟩ := (block_iff hlh).1 ⟨e, e2⟩
  have h3 : isLow (l ^^^ h) = true := (isLow_iff (xor_lt (by omega) hh)).2 ⟨k, hk, h1⟩
  unfold newRange newMask
  rw [if_pos ⟨h3, h2⟩, h1]
  by_cases e64 : k = 64
  · subst e64
    rw [if_pos rfl, if_pos (by rw [low_64]; rfl)]
  · rw [if_neg e64, if_neg]
    intro e5
    apply e64
    have := low_le hk
    apply low_inj
    rw [low_64]
    unfold inv at e5
    omega

theorem newRange_none {l h : Nat} (hlh : l ≤ h) (hh : h < 18446744073709551616) (e : ∀ k, k ≤ 64 → ¬ (h - l = low k ∧ l &&& low k = 0)) : newRange l h = ⟨2, l, h⟩ := by
  unfold newRange
  rw [if_neg]
  rintro ⟨h1, h2⟩
  obtain ⟨k, hk, h3⟩ := (isLow_iff (xor_lt (by omega) hh)).1 h1
  exact e k hk ((block_iff hlh).2 ⟨h3, h2⟩)

/-- a valid mask has no bit of its value outside -/
theorem valid_mask {a b : Nat} (h : a ||| b = a) : ∀ i, b.testBit i = true → a.testBit i = true := by
  intro i hi
  rw [← h, Nat.testBit_or, hi, Bool.or_true]
theorem mask_free {a b : Nat} (ha : a < 18446744073709551616) (h : a ||| b = a) : b &&& inv a = 0 := by
  rw [and_zero_iff]
  rintro i ⟨h1, h2⟩
  rw [bit_inv ha, valid_mask h i h1] at h2
  simp at h2

/-- a mask whose set is a range: this range's normal condition is the mask's -/
theorem mask_block {a b : Nat} (ha : a < 18446744073709551616) (h : a ||| b = a) (h1 : isLow (inv a) = true) :
    b + inv a = b ||| inv a ∧ b + inv a < 18446744073709551616 ∧ newRange b (b + inv a) = newMask a b := by
  obtain ⟨k, hk, e⟩ := (isLow_iff (inv_lt a)).1 h1
  have h2 := mask_free ha h
  have hb : b < 18446744073709551616 := by
    have := @Nat.right_le_or a b
    omega
  have h3 := add_low (by rw [← e]; exact h2 : b &&& low k = 0)
  have h4 : b + inv a < 18446744073709551616 := by rw [e, h3.1]; exact or_lt hb (by rw [← e]; exact inv_lt a)
  refine ⟨by rw [e]; exact h3.1, h4, ?_⟩
  obtain ⟨h5, h6⟩ := (block_iff (a := b) (b := b + inv a) (k := k) (by omega)).1 ⟨by omega, by rw [← e]; exact h2⟩
  unfold newRange
  rw [if_pos ⟨by rw [h5, ← e]; exact h1, h6⟩, h5, ← e, inv_inv ha]

theorem bit_shift (v k i : Nat) : (v / 2 ^ k * 2 ^ k).testBit i = (decide (k ≤ i) && v.testBit i) := by
  rw [Nat.testBit_mul_two_pow, Nat.testBit_div_two_pow]
  by_cases h : k ≤ i
  · simp [h, Nat.sub_add_cancel h]
  · simp [h]
theorem and_inv_low {v k : Nat} (hv : v < 18446744073709551616) (hk : k ≤ 64) : v &&& inv (low k) = v / 2 ^ k * 2 ^ k := by
  apply Nat.eq_of_testBit_eq
  intro i
  have := low_le hk
  rw [Nat.testBit_and, bit_inv (by omega), bit_low, bit_shift]
  by_cases h : i < 64
  · by_cases h1 : i < k
    · simp [h, h1, show ¬ k ≤ i by omega]
    · simp [h, h1, show k ≤ i by omega]
  · simp [bit_hi hv (show 64 ≤ i by omega)]
theorem block_mem {v k a : Nat} (hv : v < 18446744073709551616) (hk : k ≤ 64) (ha : a &&& low k = 0) : (v &&& inv (low k) = a) ↔ (a ≤ v ∧ v ≤ a + low k) := by
  have h1 : a % 2 ^ k = 0 := by rw [← Nat.and_two_pow_sub_one_eq_mod]; exact ha
  rw [and_inv_low hv hk]
  have h2 := low_succ k
  have hp := Nat.two_pow_pos k
  obtain ⟨q, hq⟩ : ∃ q, a = 2 ^ k * q := (Nat.dvd_iff_mod_eq_zero.2 h1)
  generalize 2 ^ k = p at *
  constructor
  · intro h
    have h3 := Nat.div_mul_le_self v p
    have h4 := Nat.lt_div_mul_add hp (a := v)
    omega
  · rintro ⟨h3, h4⟩
    have : v / p = q := by
      apply Nat.div_eq_of_lt_le
      · rw [Nat.mul_comm]; omega
      · rw [Nat.add_mul, Nat.mul_comm q p]; omega
    rw [this, Nat.mul_comm, ← hq]

theorem K.valid_cases {c : K} (h : validK c = true) : (c = ⟨0, 0, 0⟩) ∨ (∃ a b, c = ⟨1, a, b⟩ ∧ a ||| b = a) ∨ (∃ a b, c = ⟨2, a, b⟩ ∧ a ≤ b) := by
  obtain ⟨k, a, b⟩ := c
  simp only [validK, Bool.or_eq_true, Bool.and_eq_true, beq_iff_eq, decide_eq_true_eq] at h
  rcases h with (⟨⟨rfl, rfl⟩, rfl⟩ | ⟨rfl, h⟩) | ⟨rfl, h⟩
  · exact .inl rfl
  · exact .inr (.inl ⟨a, b, rfl, h⟩)
  · exact .inr (.inr ⟨a, b, rfl, h⟩)

/-- what a normal condition looks like -/
def Normal (c : K) : Prop := c = ⟨0, 0, 0⟩ ∨ (∃ a b, c = ⟨1, a, b⟩ ∧ a ≠ 0 ∧ a < 18446744073709551616 ∧ a ||| b = a) ∨
  (∃ l h, c = ⟨2, l, h⟩ ∧ l ≤ h ∧ h < 18446744073709551616 ∧ ∀ k, k ≤ 64 → ¬ (h - l = low k ∧ l &&& low k = 0))

theorem newMask_normal {a b : Nat} (ha : a < 18446744073709551616) (h : a ||| b = a) : Normal (newMask a b) := by
  unfold newMask
  by_cases h0 : a = 0
  · rw [if_pos h0]; exact .inl rfl
  · rw [if_neg h0]; exact .inr (.inl ⟨a, b, rfl, h0, ha, h⟩)
theorem or_inv_low {l k : Nat} (hl : l < 18446744073709551616) (hk : k ≤ 64) (h : l &&& low k = 0) : inv (low k) ||| l = inv (low k) := by
  apply Nat.eq_of_testBit_eq
  intro i
  have h0 := low_le hk
  have h1 := (and_zero_iff _ _).1 h i
  rw [Nat.testBit_or, bit_inv (by omega), bit_low]
  rw [bit_low] at h1
  by_cases h2 : i < 64
  · by_cases h3 : i < k
    · simp [h3] at h1; simp [h3, h1]
    · simp [h2, h3]
  · simp [bit_hi hl (show 64 ≤ i by omega)]
theorem newRange_normal {l h : Nat} (hlh : l ≤ h) (hh : h < 18446744073709551616) : Normal (newRange l h) := by
  by_cases e : ∃ k, k ≤ 64 ∧ h - l = low k ∧ l &&& low k = 0
  · obtain ⟨k, hk, e1, e2⟩ := e
    rw [newRange_block hk hlh hh e1 e2]
    by_cases e64 : k = 64
    · rw [if_pos e64]; exact .inl rfl
    · rw [if_neg e64]
      refine .inr (.inl ⟨_, _, rfl, ?_, inv_lt _, or_inv_low (by omega) hk e2⟩)
      intro e5
      apply e64
      have := low_le hk
      apply low_inj
      rw [low_64]
      unfold inv at e5
      omega
  · have e' : ∀ k, k ≤ 64 → ¬ (h - l = low k ∧ l &&& low k = 0) := fun k hk hx => e ⟨k, hk, hx.1, hx.2⟩
    rw [newRange_none hlh hh e']
    exact .inr (.inr ⟨l, h, rfl, hlh, hh, e'⟩)
theorem normK_normal {c : K} (ho : c.ok) (hv : validK c = true) : Normal (normK c) := by
  rcases K.valid_cases hv with rfl | ⟨a, b, rfl, h⟩ | ⟨a, b, rfl, h⟩
  · exact .inl rfl
  · exact newMask_normal ho.2.1 h
  · exact newRange_normal h ho.2.2

theorem Normal.ok {c : K} (h : Normal c) : c.ok := by
  rcases h with rfl | ⟨a, b, rfl, h0, ha, h⟩ | ⟨a, b, rfl, h, hb, _⟩
  · exact K.zero_ok
  · have := @Nat.right_le_or a b
    exact ⟨⟨by simp, by simp⟩, ha, by simp only; omega⟩
  · exact ⟨⟨by simp, by simp⟩, by simp only; omega, hb⟩
theorem Normal.valid {c : K} (h : Normal c) : validK c = true := by
  rcases h with rfl | ⟨a, b, rfl, h0, ha, h⟩ | ⟨a, b, rfl, h, hb, _⟩
  · rfl
  · simp [validK, h]
  · simp [validK, h]
theorem Normal.norm {c : K} (h : Normal c) : normK c = c := by
  rcases h with rfl | ⟨a, b, rfl, h0, ha, h⟩ | ⟨a, b, rfl, h, hb, h2⟩
  · rfl
  · simp [normK, newMask, h0]
  · exact newRange_none h hb h2

theorem holds_mask {a b v : Nat} : holdsK ⟨1, a, b⟩ v = (v &&& a == b) := rfl
theorem holds_range {a b v : Nat} : holdsK ⟨2, a, b⟩ v = (decide (a ≤ v) && decide (v ≤ b)) := rfl
theorem holds_any {v : Nat} : holdsK ⟨0, 0, 0⟩ v = true := rfl

theorem newMask_holds {a b v : Nat} (h : a ||| b = a) : holdsK (newMask a b) v = holdsK ⟨1, a, b⟩ v := by
  unfold newMask
  by_cases h0 : a = 0
  · subst h0
    have : b = 0 := by rw [Nat.zero_or] at h; exact h
    subst this
    rw [if_pos rfl, holds_any, holds_mask, Nat.and_zero]; rfl
  · rw [if_neg h0]
theorem newRange_holds {l h v : Nat} (hlh : l ≤ h) (hh : h < 18446744073709551616) (hv : v < 18446744073709551616) : holdsK (newRange l h) v = holdsK ⟨2, l, h⟩ v := by
  by_cases e : ∃ k, k ≤ 64 ∧ h - l = low k ∧ l &&& low k = 0
  · obtain ⟨k, hk, e1, e2⟩ := e
    have e3 : holdsK (newRange l h) v = (v &&& inv (low k) == l) := by
      obtain ⟨h1, h2⟩ := (block_iff hlh).1 ⟨e1, e2⟩
      have h3 : isLow (l ^^^ h) = true := (isLow_iff (xor_lt (by omega) hh)).2 ⟨k, hk, h1⟩
      unfold newRange
      rw [if_pos ⟨h3, h2⟩, h1, newMask_holds (or_inv_low (by omega) hk e2), holds_mask]
    rw [e3, holds_range]
    have h4 := block_mem hv hk e2
    rw [show l + low k = h by omega] at h4
    rw [Bool.eq_iff_iff, beq_iff_eq, h4]
    simp
  · rw [newRange_none hlh hh fun k hk hx => e ⟨k, hk, hx.1, hx.2⟩]
theorem normK_holds {c : K} {v : Nat} (ho : c.ok) (hv : validK c = true) (h : v < 18446744073709551616) : holdsK (normK c) v = holdsK c v := by
  rcases K.valid_cases hv with rfl | ⟨a, b, rfl, h1⟩ | ⟨a, b, rfl, h1⟩
  · rfl
  · exact newMask_holds h1
  · exact newRange_holds h1 ho.2.2 h

/-- one set within another -/
def Within (a b : K) : Prop := ∀ v, v < 18446744073709551616 → holdsK a v = true → holdsK b v = true

theorem within_norm {a b : K} (ha : a.ok) (hb : b.ok) (va : validK a = true) (vb : validK b = true) : Within (normK a) (normK b) ↔ Within a b := by
  constructor
  · intro h v hv h1
    rw [← normK_holds hb vb hv]; exact h v hv (by rw [normK_holds ha va hv]; exact h1)
  · intro h v hv h1
    rw [normK_holds hb vb hv]; exact h v hv (by rw [← normK_holds ha va hv]; exact h1)

/-- the smallest and the greatest of a set -/
def lowK (c : K) : Nat := if c.kind = 1 then c.b else if c.kind = 2 then c.a else 0
def highK (c : K) : Nat := if c.kind = 1 then c.b ||| inv c.a else if c.kind = 2 then c.b else 18446744073709551615

theorem mask_bits {a b v : Nat} : v &&& a = b ↔ ∀ i, (v.testBit i && a.testBit i) = b.testBit i := by
  constructor
  · rintro rfl i; rw [Nat.testBit_and]
  · intro h; apply Nat.eq_of_testBit_eq; intro i; rw [Nat.testBit_and, h]

theorem le_or_of_bits {x y : Nat} (h : ∀ i, x.testBit i = true → y.testBit i = true) : x ≤ y := by
  have e : x ||| y = y := by
    apply Nat.eq_of_testBit_eq; intro i
    have := h i
    rw [Nat.testBit_or]
    revert this
    cases x.testBit i <;> cases y.testBit i <;> simp
  rw [← e]; exact Nat.left_le_or

theorem bounds_mask {a b : Nat} (ha : a < 18446744073709551616) (h : a ||| b = a) :
    holdsK ⟨1, a, b⟩ b = true ∧ holdsK ⟨1, a, b⟩ (b ||| inv a) = true ∧ ∀ v, v < 18446744073709551616 → holdsK ⟨1, a, b⟩ v = true → b ≤ v ∧ v ≤ b ||| inv a := by
  have hb := valid_mask h
  refine ⟨?_, ?_, fun v hv h1 => ?_⟩
  · rw [holds_mask, beq_iff_eq, mask_bits]
    intro i
    have := hb i
    revert this
    cases a.testBit i <;> cases b.testBit i <;> simp
  · rw [holds_mask, beq_iff_eq, mask_bits]
    intro i
    have := hb i
    rw [Nat.testBit_or, bit_inv ha]
    revert this
    cases a.testBit i <;> cases b.testBit i <;> simp
  · rw [holds_mask, beq_iff_eq, mask_bits] at h1
    constructor
    · apply le_or_of_bits
      intro i hi
      have := h1 i
      rw [hi] at this
      revert this
      cases v.testBit i <;> simp
    · apply le_or_of_bits
      intro i hi
      have h2 := h1 i
      rw [hi] at h2
      rw [Nat.testBit_or, bit_inv ha, ← h2]
      have : i < 64 := by
        rcases Nat.lt_or_ge i 64 with h3 | h3
        · exact h3
        · rw [bit_hi hv h3] at hi; exact absurd hi (by decide)
      simp [this]

theorem bounds_of {c : K} (h : Normal c) : lowK c < 18446744073709551616 ∧ highK c < 18446744073709551616 ∧ holdsK c (lowK c) = true ∧ holdsK c (highK c) = true ∧ ∀ v, v < 18446744073709551616 → holdsK c v = true → lowK c ≤ v ∧ v ≤ highK c := by
  have ho := h.ok
  rcases h with rfl | ⟨a, b, rfl, h0, ha, h⟩ | ⟨a, b, rfl, h, hb, h2⟩
  · exact ⟨by decide, by decide, rfl, rfl, fun v hv _ => ⟨by simp [lowK], by simp [highK]; omega⟩⟩
  · exact ⟨ho.2.2, or_lt ho.2.2 (inv_lt _), bounds_mask ha h⟩
  · refine ⟨ho.2.1, hb, ?_, ?_, fun v hv h1 => ?_⟩
    · simp [holds_range, lowK, h]
    · simp [holds_range, highK, h]
    · simpa [holds_range, lowK, highK] using h1
end Go.Proofs.Ytjkmcdgjhfiklaa
