/-
  PLAIN MATHEMATICS of the conditions, second part: both ways to decide whether one set lies within another; equal sets have equal normal conditions. No Go in sight.
-/
import Derived.Test.YtjkmcdgjhfiklaaMathP
namespace Go.Proofs.Ytjkmcdgjhfiklaa
set_option linter.unusedVariables false

/-- so many bits a number has -/
def lenN (x : Nat) : Nat := if x = 0 then 0 else Nat.log2 x + 1
theorem lenN_lt (x : Nat) : x < 2 ^ lenN x := by
  unfold lenN
  by_cases h : x = 0
  · rw [if_pos h, h]; decide
  · rw [if_neg h]; exact Nat.lt_log2_self
theorem lenN_ge {x : Nat} (h : x ≠ 0) : 2 ^ (lenN x - 1) ≤ x := by
  unfold lenN
  rw [if_neg h, Nat.add_sub_cancel]; exact Nat.log2_self_le h
theorem lenN_le {x : Nat} (h : x < 18446744073709551616) : lenN x ≤ 64 := by
  unfold lenN
  by_cases h0 : x = 0
  · rw [if_pos h0]; omega
  · rw [if_neg h0]
    have : Nat.log2 x < 64 := (Nat.log2_lt h0).2 h
    omega
theorem lenN_uniq {x n : Nat} (h : x < 2 ^ n) (h1 : n = 0 ∨ 2 ^ (n - 1) ≤ x) : lenN x = n := by
  unfold lenN
  by_cases h0 : x = 0
  · subst h0
    rw [if_pos rfl]
    rcases h1 with rfl | h1
    · rfl
    · exact absurd h1 (by have := Nat.two_pow_pos (n - 1); omega)
  · rw [if_neg h0]
    rcases h1 with rfl | h1
    · simp at h; omega
    · have h2 : Nat.log2 x < n := (Nat.log2_lt h0).2 h
      have h3 : n - 1 ≤ Nat.log2 x := (Nat.le_log2 h0).2 h1
      omega

/-- all numbers of a range agree in the bits from the length on -/
theorem range_top {l h x n : Nat} (e : l ^^^ h < 2 ^ n) (h1 : l ≤ x) (h2 : x ≤ h) {i : Nat} (hi : n ≤ i) : x.testBit i = l.testBit i := by
  have e1 : l / 2 ^ n = h / 2 ^ n := by
    have e2 : (l ^^^ h) / 2 ^ n = 0 := Nat.div_eq_of_lt e
    rw [Nat.xor_div_two_pow] at e2
    have e6 := xor_cancel (l / 2 ^ n) (h / 2 ^ n)
    rw [e2, Nat.xor_zero] at e6; exact e6
  have e3 : l / 2 ^ n ≤ x / 2 ^ n := Nat.div_le_div_right h1
  have e4 : x / 2 ^ n ≤ h / 2 ^ n := Nat.div_le_div_right h2
  have e5 : x / 2 ^ n = l / 2 ^ n := by omega
  have b1 : (x / 2 ^ n).testBit (i - n) = x.testBit (i - n + n) := Nat.testBit_div_two_pow x (i - n)
  have b2 : (l / 2 ^ n).testBit (i - n) = l.testBit (i - n + n) := Nat.testBit_div_two_pow l (i - n)
  rw [e5, b2, Nat.sub_add_cancel hi] at b1
  exact b1.symm

/-- and it has both values of every bit below -/
theorem range_low {l h : Nat} (hlh : l ≤ h) (h0 : l ^^^ h ≠ 0) : ∃ y, l ≤ y ∧ y + 1 ≤ h ∧ ∀ i, i < lenN (l ^^^ h) → y.testBit i ≠ (y + 1).testBit i := by
  have hlt := lenN_lt (l ^^^ h)
  have hge := lenN_ge h0
  have hn : 0 < lenN (l ^^^ h) := by unfold lenN; rw [if_neg h0]; omega
  obtain ⟨m, hm⟩ : ∃ m, lenN (l ^^^ h) = m + 1 := ⟨lenN (l ^^^ h) - 1, by omega⟩
  rw [hm] at hlt hge ⊢
  rw [Nat.add_sub_cancel] at hge
  have hp := Nat.two_pow_pos m
  have e1 : (l ^^^ h) / 2 ^ m = 1 := by
    apply Nat.div_eq_of_lt_le
    · omega
    · rw [Nat.pow_succ] at hlt; omega
  rw [Nat.xor_div_two_pow] at e1
  have e2 : h / 2 ^ m = l / 2 ^ m ^^^ 1 := by rw [← e1, xor_cancel]
  have e3 : l / 2 ^ m ≤ h / 2 ^ m := Nat.div_le_div_right hlh
  have e4 : (h / 2 ^ m) / 2 = (l / 2 ^ m) / 2 := by rw [e2, Nat.xor_div_two]; simp
  have e5 : (h / 2 ^ m) % 2 = (l / 2 ^ m + 1) % 2 := by
    have e9 : (h / 2 ^ m).testBit 0 = ((l / 2 ^ m).testBit 0 ^^ (1 : Nat).testBit 0) := by rw [e2, Nat.testBit_xor]
    rw [Nat.testBit_zero, Nat.testBit_zero, Nat.testBit_zero] at e9
    rcases Nat.mod_two_eq_zero_or_one (l / 2 ^ m) with g | g <;> rw [g] at e9 <;> simp at e9 <;> omega
  have e6 : ∃ q, l / 2 ^ m = 2 * q ∧ h / 2 ^ m = 2 * q + 1 := ⟨(l / 2 ^ m) / 2, by omega, by omega⟩
  obtain ⟨q, e7, e8⟩ := e6
  have l1 := Nat.lt_div_mul_add hp (a := l)
  have h1 := Nat.div_mul_le_self h (2 ^ m)
  rw [e7] at l1
  rw [e8] at h1
  have hl := low_succ m
  refine ⟨2 ^ m * (2 * q) + low m, ?_, ?_, fun i hi => ?_⟩
  · rw [Nat.mul_comm (2 ^ m)]; omega
  · rw [Nat.add_mul, Nat.one_mul] at h1
    rw [Nat.mul_comm (2 ^ m)]; omega
  · have y1 : 2 ^ m * (2 * q) + low m + 1 = 2 ^ m * (2 * q + 1) + 0 := by rw [Nat.mul_add, Nat.mul_one]; omega
    rw [y1, Nat.testBit_two_pow_mul_add _ (low_lt m), Nat.testBit_two_pow_mul_add _ hp]
    by_cases hi2 : i < m
    · rw [if_pos hi2, if_pos hi2, bit_low]; simp [hi2]
    · have : i = m := by omega
      subst this
      rw [if_neg hi2, if_neg hi2, Nat.sub_self, Nat.testBit_zero, Nat.testBit_zero]
      have a1 : 2 * q % 2 = 0 := by omega
      have a2 : (2 * q + 1) % 2 = 1 := by omega
      simp

/-- the bits in which all numbers of a set agree, and their value -/
def agreeM (c : K) : Nat := if c.kind = 1 then c.a else if c.kind = 2 then inv (low (lenN (c.a ^^^ c.b))) else 0
def agreeV (c : K) : Nat := if c.kind = 1 then c.b else if c.kind = 2 then c.a &&& inv (low (lenN (c.a ^^^ c.b))) else 0
def withinI (a b : K) : Bool :=
  if b.kind = 1 then (agreeM a &&& b.a == b.a) && (agreeV a &&& b.a == b.b) else if b.kind = 2 then decide (b.a ≤ lowK a) && decide (highK a ≤ b.b) else true

theorem bit_lt64 {x : Nat} (h : x < 18446744073709551616) {i : Nat} (hi : x.testBit i = true) : i < 64 := by
  rcases Nat.lt_or_ge i 64 with h1 | h1
  · exact h1
  · rw [bit_hi h h1] at hi; exact absurd hi (by decide)

theorem range_mask {l h m v : Nat} (hlh : l ≤ h) (hh : h < 18446744073709551616) (hm : m < 18446744073709551616) :
    Within ⟨2, l, h⟩ ⟨1, m, v⟩ ↔ (inv (low (lenN (l ^^^ h))) &&& m = m ∧ l &&& inv (low (lenN (l ^^^ h))) &&& m = v) := by
  have hx := xor_lt (show l < 18446744073709551616 by omega) hh
  have hn := lenN_le hx
  have hlt := lenN_lt (l ^^^ h)
  have bi : ∀ i, (inv (low (lenN (l ^^^ h)))).testBit i = (decide (i < 64) && !decide (i < lenN (l ^^^ h))) := fun i => by
    rw [bit_inv (by have := low_le hn; omega), bit_low]
  have key : (inv (low (lenN (l ^^^ h))) &&& m = m) → l &&& inv (low (lenN (l ^^^ h))) &&& m = l &&& m := fun e => by rw [Nat.and_assoc, e]
  constructor
  · intro hw
    have w : ∀ x, l ≤ x → x ≤ h → x &&& m = v := fun x h1 h2 => by
      have := hw x (by omega) (by rw [holds_range]; simp [h1, h2])
      rwa [holds_mask, beq_iff_eq] at this
    have e : inv (low (lenN (l ^^^ h))) &&& m = m := by
      rw [and_eq_iff]
      intro i hi
      rw [bi]
      by_cases h1 : i < lenN (l ^^^ h)
      · exfalso
        have h0 : l ^^^ h ≠ 0 := fun h0 => by rw [h0] at h1; exact absurd h1 (by unfold lenN; simp)
        obtain ⟨y, y1, y2, y3⟩ := range_low hlh h0
        have b1 := mask_bits.1 (w y y1 (by omega)) i
        have b2 := mask_bits.1 (w (y + 1) (by omega) y2) i
        rw [hi, Bool.and_true] at b1 b2
        exact y3 i h1 (b1.trans b2.symm)
      · simp [h1, bit_lt64 hm hi]
    exact ⟨e, by rw [key e]; exact w l (Nat.le_refl _) hlh⟩
  · rintro ⟨e, e2⟩ x hxl hx2
    rw [holds_range] at hx2
    simp only [Bool.and_eq_true, decide_eq_true_eq] at hx2
    rw [holds_mask, beq_iff_eq, ← e2, key e]
    apply Nat.eq_of_testBit_eq
    intro i
    rw [Nat.testBit_and, Nat.testBit_and]
    by_cases hi : m.testBit i = true
    · have := (and_eq_iff _ _).1 e i hi
      rw [bi] at this
      simp at this
      rw [range_top hlt hx2.1 hx2.2 this.2]
    · rw [Bool.not_eq_true] at hi; rw [hi, Bool.and_false, Bool.and_false]

theorem flip_lt {x i : Nat} (h : x < 18446744073709551616) (hi : i < 64) : x ^^^ 2 ^ i < 18446744073709551616 :=
  xor_lt h (Nat.pow_lt_pow_right (a := 2) (by omega) hi)

theorem mask_mask {am av m v : Nat} (ha : am < 18446744073709551616) (hm : m < 18446744073709551616) (h : am ||| av = am) :
    Within ⟨1, am, av⟩ ⟨1, m, v⟩ ↔ (am &&& m = m ∧ av &&& m = v) := by
  have hb := valid_mask h
  have hav : av < 18446744073709551616 := by have := @Nat.right_le_or am av; omega
  have in0 := (bounds_mask ha h).1
  constructor
  · intro hw
    have e0 := hw av hav in0
    rw [holds_mask, beq_iff_eq] at e0
    refine ⟨?_, e0⟩
    rw [and_eq_iff]
    intro i hi
    cases hc : am.testBit i with
    | true => rfl
    | false =>
      exfalso
      have i64 := bit_lt64 hm hi
      have e1 := hw (av ^^^ 2 ^ i) (flip_lt hav i64) (by
        rw [holds_mask, beq_iff_eq, mask_bits]
        intro j
        rw [holds_mask, beq_iff_eq, mask_bits] at in0
        rw [Nat.testBit_xor, Nat.testBit_two_pow]
        by_cases hj : i = j
        · subst hj; rw [hc, Bool.and_false, ← in0 i, hc, Bool.and_false]
        · have := in0 j
          rw [decide_eq_false hj, Bool.xor_false]; exact this)
      rw [holds_mask, beq_iff_eq] at e1
      have b0 := mask_bits.1 e0 i
      have b1 := mask_bits.1 e1 i
      rw [hi, Bool.and_true] at b0 b1
      rw [Nat.testBit_xor, Nat.testBit_two_pow, ← b0] at b1
      simp at b1
  · rintro ⟨e1, e2⟩ x hx h1
    rw [holds_mask, beq_iff_eq] at h1
    rw [holds_mask, beq_iff_eq, ← e2, ← h1, Nat.and_assoc, e1]

theorem within_range {a : K} {l h : Nat} (ha : Normal a) : Within a ⟨2, l, h⟩ ↔ (l ≤ lowK a ∧ highK a ≤ h) := by
  obtain ⟨h1, h2, h3, h4, h5⟩ := bounds_of ha
  constructor
  · intro hw
    have e1 := hw _ h1 h3
    have e2 := hw _ h2 h4
    rw [holds_range] at e1 e2
    simp at e1 e2
    exact ⟨e1.1, e2.2⟩
  · rintro ⟨e1, e2⟩ v hv h6
    have := h5 v hv h6
    rw [holds_range]
    simp; omega

theorem withinI_iff {a b : K} (ha : Normal a) (hb : Normal b) : withinI a b = true ↔ Within a b := by
  rcases hb with rfl | ⟨m, v, rfl, h0, hm, h⟩ | ⟨l, h, rfl, hlh, hh, h2⟩
  · simp only [withinI]; simp; intro v hv h1; rfl
  · have e : withinI a ⟨1, m, v⟩ = ((agreeM a &&& m == m) && (agreeV a &&& m == v)) := rfl
    rw [e, Bool.and_eq_true, beq_iff_eq, beq_iff_eq]
    rcases ha with rfl | ⟨am, av, rfl, h0', ham, h'⟩ | ⟨l, h', rfl, hlh, hh, h2⟩
    · have e1 : Within ⟨0, 0, 0⟩ ⟨1, m, v⟩ ↔ Within ⟨1, 0, 0⟩ ⟨1, m, v⟩ := by
        unfold Within
        constructor
        · intro hw x hx _; exact hw x hx rfl
        · intro hw x hx _; exact hw x hx (by rw [holds_mask, Nat.and_zero]; rfl)
      rw [e1, mask_mask (by omega) hm rfl]; rfl
    · rw [mask_mask ham hm h']; rfl
    · rw [range_mask hlh hh hm]; rfl
  · have e : withinI a ⟨2, l, h⟩ = (decide (l ≤ lowK a) && decide (highK a ≤ h)) := rfl
    rw [e, within_range ha]; simp

/-- a mask whose set is all between its bounds -/
theorem mask_unbroken {a b : Nat} (ha : a < 18446744073709551616) (h : a ||| b = a) (hw : Within ⟨2, b, b ||| inv a⟩ ⟨1, a, b⟩) : isLow (inv a) = true := by
  have hb : b < 18446744073709551616 := by have := @Nat.right_le_or a b; omega
  have hle : b ≤ b ||| inv a := Nat.left_le_or
  have hx : b ^^^ (b ||| inv a) = inv a := by
    apply Nat.eq_of_testBit_eq
    intro i
    rw [Nat.testBit_xor, Nat.testBit_or]
    have := (and_zero_iff _ _).1 (mask_free ha h) i
    revert this
    cases b.testBit i <;> cases (inv a).testBit i <;> simp
  have hw2 := (range_mask hle (or_lt hb (inv_lt a)) ha).1 hw
  rw [hx] at hw2
  have hn := lenN_le (inv_lt a)
  refine (isLow_iff (inv_lt a)).2 ⟨lenN (inv a), hn, ?_⟩
  apply Nat.eq_of_testBit_eq
  intro i
  rw [bit_low]
  by_cases hi : i < lenN (inv a)
  · rw [decide_eq_true hi, bit_inv ha]
    cases hc : a.testBit i with
    | false => simp; omega
    | true =>
      exfalso
      have := (and_eq_iff _ _).1 hw2.1 i hc
      rw [bit_inv (by have := low_le hn; omega), bit_low] at this
      simp [hi] at this
  · rw [decide_eq_false hi]
    exact Nat.testBit_lt_two_pow (Nat.lt_of_lt_of_le (lenN_lt _) (Nat.pow_le_pow_right (by omega) (by omega)))

/-- equal sets, equal normal conditions -/
theorem normal_uniq {a b : K} (ha : Normal a) (hb : Normal b) (h1 : Within a b) (h2 : Within b a) : a = b := by
  have all_mask : ∀ {m v : Nat}, m ≠ 0 → m < 18446744073709551616 → m ||| v = m → Within ⟨0, 0, 0⟩ ⟨1, m, v⟩ → False := by
    intro m v h0 hm h hw
    have := (withinI_iff (.inl rfl) (.inr (.inl ⟨m, v, rfl, h0, hm, h⟩))).2 hw
    have e : withinI ⟨0, 0, 0⟩ ⟨1, m, v⟩ = ((0 &&& m == m) && (0 &&& m == v)) := rfl
    rw [e, Bool.and_eq_true, beq_iff_eq, Nat.zero_and] at this
    exact h0 this.1.symm
  have all_range : ∀ {l h : Nat}, h < 18446744073709551616 → (∀ k, k ≤ 64 → ¬ (h - l = low k ∧ l &&& low k = 0)) → Within ⟨0, 0, 0⟩ ⟨2, l, h⟩ → False := by
    intro l h hh h2 hw
    have := (within_range (a := ⟨0, 0, 0⟩) (.inl rfl)).1 hw
    simp only [lowK, highK] at this
    simp at this
    refine h2 64 (by omega) ⟨by rw [low_64]; omega, by rw [this.1, Nat.zero_and]⟩
  have mask_range : ∀ {m v l h : Nat}, m ≠ 0 → m < 18446744073709551616 → m ||| v = m → l ≤ h → h < 18446744073709551616 → (∀ k, k ≤ 64 → ¬ (h - l = low k ∧ l &&& low k = 0)) → Within ⟨1, m, v⟩ ⟨2, l, h⟩ → Within ⟨2, l, h⟩ ⟨1, m, v⟩ → False := by
    intro m v l h h0 hm hv hlh hh h2 hw1 hw2
    obtain ⟨i1, i2, i3⟩ := bounds_mask hm hv
    have hvl : v < 18446744073709551616 := by have := @Nat.right_le_or m v; omega
    have e1 := hw1 _ hvl i1
    have e2 := hw1 _ (or_lt hvl (inv_lt m)) i2
    have e3 := i3 l (by omega) (hw2 l (by omega) (by rw [holds_range]; simp [hlh]))
    have e4 := i3 h hh (hw2 h hh (by rw [holds_range]; simp [hlh]))
    rw [holds_range] at e1 e2
    simp at e1 e2
    have el : l = v := by omega
    have eh : h = v ||| inv m := by omega
    subst el eh
    have hlow := mask_unbroken hm hv hw2
    obtain ⟨k, hk, ek⟩ := (isLow_iff (inv_lt m)).1 hlow
    have := mask_block hm hv hlow
    have hf := mask_free hm hv
    exact h2 k hk ⟨by rw [← this.1, ← ek]; omega, by rw [← ek]; exact hf⟩
  rcases ha with rfl | ⟨m, v, rfl, h0, hm, hv⟩ | ⟨l, h, rfl, hlh, hh, hn⟩
  · rcases hb with rfl | ⟨m', v', rfl, h0', hm', hv'⟩ | ⟨l', h', rfl, hlh', hh', hn'⟩
    · rfl
    · exact (all_mask h0' hm' hv' h1).elim
    · exact (all_range hh' hn' h1).elim
  · rcases hb with rfl | ⟨m', v', rfl, h0', hm', hv'⟩ | ⟨l', h', rfl, hlh', hh', hn'⟩
    · exact (all_mask h0 hm hv h2).elim
    · have e1 := (mask_mask hm hm' hv).1 h1
      have e2 := (mask_mask hm' hm hv').1 h2
      have em : m = m' := by rw [← e2.1, Nat.and_comm]; exact e1.1
      subst em
      have i1 := (bounds_mask hm hv).1
      rw [holds_mask, beq_iff_eq] at i1
      rw [show v = v' from i1.symm.trans e1.2]
    · exact (mask_range h0 hm hv hlh' hh' hn' h1 h2).elim
  · rcases hb with rfl | ⟨m', v', rfl, h0', hm', hv'⟩ | ⟨l', h', rfl, hlh', hh', hn'⟩
    · exact (all_range hh hn h2).elim
    · exact (mask_range h0' hm' hv' hlh hh hn h2 h1).elim
    · have e1 := (within_range (.inr (.inr ⟨l, h, rfl, hlh, hh, hn⟩))).1 h1
      have e2 := (within_range (.inr (.inr ⟨l', h', rfl, hlh', hh', hn'⟩))).1 h2
      have g1 : l' ≤ l ∧ h ≤ h' := e1
      have g2 : l ≤ l' ∧ h' ≤ h := e2
      rw [show l = l' by omega, show h = h' by omega]

/-! the model's way -/

def blockK (c : K) : Option (Nat × Nat) := if c.kind = 0 then some (0, 18446744073709551615) else if c.kind = 2 then some (c.a, c.b) else if isLow (inv c.a) then some (c.b, c.b + inv c.a) else none

theorem block_holds {c : K} {lo hi v : Nat} (ho : c.ok) (hv : validK c = true) (h : blockK c = some (lo, hi)) (hb : v < 18446744073709551616) : holdsK c v = true ↔ (lo ≤ v ∧ v ≤ hi) := by
  rcases K.valid_cases hv with rfl | ⟨a, b, rfl, h1⟩ | ⟨a, b, rfl, h1⟩
  · simp [blockK] at h; obtain ⟨rfl, rfl⟩ := h
    simp [holds_any]; omega
  · have h2 : (if isLow (inv a) then some (b, b + inv a) else none) = some (lo, hi) := h
    by_cases h3 : isLow (inv a) = true
    · rw [if_pos h3] at h2
      simp at h2; obtain ⟨rfl, rfl⟩ := h2
      obtain ⟨e1, e2, e3⟩ := mask_block ho.2.1 h1 h3
      rw [← newMask_holds h1, ← e3, newRange_holds (by omega) e2 hb, holds_range]
      simp
    · rw [if_neg h3] at h2; exact absurd h2 (by simp)
  · simp [blockK] at h; obtain ⟨rfl, rfl⟩ := h
    rw [holds_range]; simp
theorem block_lt {c : K} {lo hi : Nat} (ho : c.ok) (hv : validK c = true) (h : blockK c = some (lo, hi)) : lo ≤ hi ∧ hi < 18446744073709551616 := by
  rcases K.valid_cases hv with rfl | ⟨a, b, rfl, h1⟩ | ⟨a, b, rfl, h1⟩
  · simp [blockK] at h; omega
  · have h2 : (if isLow (inv a) then some (b, b + inv a) else none) = some (lo, hi) := h
    by_cases h3 : isLow (inv a) = true
    · rw [if_pos h3] at h2
      simp at h2; obtain ⟨rfl, rfl⟩ := h2
      obtain ⟨e1, e2, e3⟩ := mask_block ho.2.1 h1 h3
      exact ⟨by omega, e2⟩
    · rw [if_neg h3] at h2; exact absurd h2 (by simp)
  · simp [blockK] at h; obtain ⟨rfl, rfl⟩ := h
    exact ⟨h1, ho.2.2⟩

/-- the least number from one on that is not in the set -/
def OutK (c : K) (f v : Nat) (s : Bool) : Prop :=
  if s then f ≤ v ∧ v < 18446744073709551616 ∧ holdsK c v = false ∧ ∀ x, f ≤ x → x < v → holdsK c x = true
  else ∀ x, f ≤ x → x < 18446744073709551616 → holdsK c x = true

theorem out_within {c d : K} {lo hi v : Nat} {s : Bool} (ho : c.ok) (hv : validK c = true) (h : blockK c = some (lo, hi)) (h1 : OutK d lo v s) : ((!s || decide (hi < v)) = true ↔ Within c d) := by
  have hl := block_lt ho hv h
  have hb := fun {x} (hx : x < 18446744073709551616) => block_holds ho hv h hx
  cases s with
  | false =>
    have h2 : ∀ x, lo ≤ x → x < 18446744073709551616 → holdsK d x = true := h1
    simp
    intro x hx h3
    exact h2 x ((hb hx).1 h3).1 hx
  | true =>
    obtain ⟨h2, h3, h4, h5⟩ : lo ≤ v ∧ v < 18446744073709551616 ∧ holdsK d v = false ∧ ∀ x, lo ≤ x → x < v → holdsK d x = true := h1
    simp
    constructor
    · intro h6 x hx h7
      have := (hb hx).1 h7
      exact h5 x this.1 (by omega)
    · intro hw
      rcases Nat.lt_or_ge hi v with h6 | h6
      · exact h6
      · have := hw v h3 ((hb h3).2 ⟨h2, h6⟩)
        rw [h4] at this; exact absurd this (by decide)

theorem out_range {l h f : Nat} (hf : f < 18446744073709551616) (hh : h < 18446744073709551616) (h1 : holdsK ⟨2, l, h⟩ f = true) : OutK ⟨2, l, h⟩ f (if h = 18446744073709551615 then 0 else h + 1) (decide (h ≠ 18446744073709551615)) := by
  rw [holds_range] at h1
  simp at h1
  by_cases e : h = 18446744073709551615
  · rw [if_pos e]
    simp only [OutK, e]
    simp
    intro x hx hx2
    rw [holds_range]; simp; omega
  · rw [if_neg e, decide_eq_true (show h ≠ 18446744073709551615 from e)]
    refine ⟨by omega, by omega, ?_, fun x hx hx2 => ?_⟩
    · rw [holds_range]; simp
    · rw [holds_range]; simp; omega

theorem out_mask {a b f k : Nat} (hf : f < 18446744073709551616) (ha : a < 18446744073709551616) (hk : k < 64) (h1 : holdsK ⟨1, a, b⟩ f = true) (h2 : a.testBit k = true) (h3 : ∀ j, j < k → a.testBit j = false) :
    OutK ⟨1, a, b⟩ f (if f ||| low k = 18446744073709551615 then 0 else (f ||| low k) + 1) (decide (f ||| low k ≠ 18446744073709551615)) := by
  have h1' := h1
  rw [holds_mask, beq_iff_eq] at h1
  have hlk := low_le (show k ≤ 64 by omega)
  have hfl : f ||| low k < 18446744073709551616 := or_lt hf (by omega)
  have hq : f ||| low k = 2 ^ k * (f / 2 ^ k) + low k := by
    apply Nat.eq_of_testBit_eq
    intro i
    rw [Nat.testBit_or, Nat.testBit_two_pow_mul_add _ (low_lt k), bit_low, Nat.testBit_div_two_pow]
    by_cases h : i < k
    · simp [h]
    · simp [h, Nat.sub_add_cancel (show k ≤ i by omega)]
  have inside : ∀ x, f ≤ x → x ≤ f ||| low k → holdsK ⟨1, a, b⟩ x = true := by
    intro x hx1 hx2
    have hxor : f ^^^ (f ||| low k) < 2 ^ k := by
      apply Nat.lt_pow_two_of_testBit
      intro i hi
      rw [Nat.testBit_xor, Nat.testBit_or, bit_low]
      simp [show ¬ i < k by omega]
    rw [holds_mask, beq_iff_eq, ← h1]
    apply Nat.eq_of_testBit_eq
    intro i
    rw [Nat.testBit_and, Nat.testBit_and]
    by_cases hi : i < k
    · rw [h3 i hi, Bool.and_false, Bool.and_false]
    · rw [range_top hxor hx1 hx2 (by omega)]
  by_cases e : f ||| low k = 18446744073709551615
  · rw [if_pos e]
    simp only [OutK, e]
    simp
    intro x hx hx2
    exact inside x hx (by omega)
  · rw [if_neg e]
    have hle : f ≤ f ||| low k := Nat.left_le_or
    rw [decide_eq_true (show f ||| low k ≠ 18446744073709551615 from e)]
    refine ⟨by omega, by omega, ?_, fun x hx hx2 => inside x hx (by omega)⟩
    rw [holds_mask]
    cases hc : ((f ||| low k) + 1 &&& a == b) with
    | false => rfl
    | true =>
      exfalso
      rw [beq_iff_eq] at hc
      have b1 := mask_bits.1 hc k
      have b2 := mask_bits.1 h1 k
      rw [h2, Bool.and_true] at b1 b2
      have e2 : (f ||| low k) + 1 = 2 ^ k * (f / 2 ^ k + 1) + 0 := by
        have := low_succ k
        rw [hq, Nat.mul_add, Nat.mul_one]; omega
      rw [e2, Nat.testBit_two_pow_mul_add _ (Nat.two_pow_pos k), if_neg (by omega), Nat.sub_self, ← b2] at b1
      have e3 : f.testBit k = (f / 2 ^ k).testBit 0 := by rw [Nat.testBit_div_two_pow, Nat.zero_add]
      rw [e3, Nat.testBit_zero, Nat.testBit_zero] at b1
      simp at b1
      omega
theorem out_free {b f : Nat} (h1 : holdsK ⟨1, 0, b⟩ f = true) : OutK ⟨1, 0, b⟩ f 0 false := by
  intro x hx hx2
  rw [holds_mask, Nat.and_zero] at h1 ⊢; exact h1
theorem out_any {f : Nat} : OutK ⟨0, 0, 0⟩ f 0 false := fun x _ _ => rfl
theorem out_first {c : K} {f : Nat} (hf : f < 18446744073709551616) (h : holdsK c f = false) : OutK c f f true := ⟨Nat.le_refl _, hf, h, fun x h1 h2 => by omega⟩
theorem zero_of_bits {a : Nat} (ha : a < 18446744073709551616) (h : ∀ j, j < 64 → a.testBit j = false) : a = 0 := by
  apply Nat.eq_of_testBit_eq
  intro i
  rw [Nat.zero_testBit]
  rcases Nat.lt_or_ge i 64 with h1 | h1
  · exact h i h1
  · exact bit_hi ha h1

/-- mask within mask, bit by bit -/
theorem mask_mask_bits {am av m v : Nat} (ha : am < 18446744073709551616) (hm : m < 18446744073709551616) (h : am ||| av = am) (h' : m ||| v = m) :
    Within ⟨1, am, av⟩ ⟨1, m, v⟩ ↔ ∀ k, k < 64 → m.testBit k = true → am.testBit k = true ∧ av.testBit k = v.testBit k := by
  rw [mask_mask ha hm h]
  constructor
  · rintro ⟨e1, e2⟩ k hk hb
    refine ⟨(and_eq_iff _ _).1 e1 k hb, ?_⟩
    have := mask_bits.1 e2 k
    rw [hb, Bool.and_true] at this; exact this
  · intro e
    refine ⟨(and_eq_iff _ _).2 fun i hi => (e i (bit_lt64 hm hi) hi).1, mask_bits.2 fun i => ?_⟩
    cases hc : m.testBit i with
    | true => rw [Bool.and_true]; exact (e i (bit_lt64 hm hc) hc).2
    | false =>
      rw [Bool.and_false]
      cases hd : v.testBit i with
      | false => rfl
      | true => rw [valid_mask h' i hd] at hc; exact absurd hc (by decide)
theorem mask_any {am av : Nat} : Within ⟨1, am, av⟩ ⟨0, 0, 0⟩ := fun v _ _ => rfl
theorem mask_in_range {am av l h : Nat} (ha : am < 18446744073709551616) (hv : am ||| av = am) : Within ⟨1, am, av⟩ ⟨2, l, h⟩ ↔ (l ≤ av ∧ av ||| inv am ≤ h) := by
  obtain ⟨h3, h4, h5⟩ := bounds_mask ha hv
  have hav : av < 18446744073709551616 := by have := @Nat.right_le_or am av; omega
  constructor
  · intro hw
    have e1 := hw _ hav h3
    have e2 := hw _ (or_lt hav (inv_lt am)) h4
    rw [holds_range] at e1 e2
    simp at e1 e2
    exact ⟨e1.1, e2.2⟩
  · rintro ⟨e1, e2⟩ v hv h6
    have := h5 v hv h6
    rw [holds_range]
    simp; omega
theorem and_bit (x k : Nat) : (x &&& 2 ^ k = 0) ↔ x.testBit k = false := by
  rw [and_zero_iff]
  constructor
  · intro h
    have := h k
    rw [Nat.testBit_two_pow_self] at this
    simpa using this
  · rintro h i ⟨h1, h2⟩
    rw [Nat.testBit_two_pow] at h2
    have : k = i := by simpa using h2
    subst this
    rw [h] at h1; exact absurd h1 (by decide)
theorem and_bit_eq (x y k : Nat) : (x &&& 2 ^ k = y &&& 2 ^ k) ↔ x.testBit k = y.testBit k := by
  constructor
  · intro h
    have e : (x &&& 2 ^ k).testBit k = (y &&& 2 ^ k).testBit k := by rw [h]
    rw [Nat.testBit_and, Nat.testBit_and, Nat.testBit_two_pow_self, Bool.and_true, Bool.and_true] at e
    exact e
  · intro h
    apply Nat.eq_of_testBit_eq
    intro i
    rw [Nat.testBit_and, Nat.testBit_and, Nat.testBit_two_pow]
    by_cases hi : k = i
    · subst hi; rw [h]
    · rw [decide_eq_false hi, Bool.and_false, Bool.and_false]
end Go.Proofs.Ytjkmcdgjhfiklaa
