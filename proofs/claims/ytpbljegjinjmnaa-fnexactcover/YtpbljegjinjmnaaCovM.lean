/-
  PLAIN MATHEMATICS of covering values: the bits in which all agree, the smallest and the greatest, how many bits are set. No Go in sight.
-/
import Derived.Test.YtpbljegjinjmnaaMathQ
import Derived.Lib.BitFns
namespace Go.Proofs.Ytpbljegjinjmnaa
set_option linter.unusedVariables false

/-- the bits in which one of the first n differs from the first one -/
def difN (vs : List Nat) : Nat → Nat
  | 0 => 0
  | n + 1 => difN vs n ||| (vs.getD n 0 ^^^ vs.getD 0 0)
/-- how many of the first n have bit k -/
def onesN (vs : List Nat) (k : Nat) : Nat → Nat
  | 0 => 0
  | n + 1 => onesN vs k n + (if (vs.getD n 0).testBit k = true then 1 else 0)
def minN (vs : List Nat) : Nat → Nat
  | 0 => vs.getD 0 0
  | n + 1 => if vs.getD n 0 < minN vs n then vs.getD n 0 else minN vs n
def maxN (vs : List Nat) : Nat → Nat
  | 0 => vs.getD 0 0
  | n + 1 => if maxN vs n < vs.getD n 0 then vs.getD n 0 else maxN vs n

def All64 (vs : List Nat) : Prop := ∀ i, vs.getD i 0 < 18446744073709551616

def covA (vs : List Nat) : Nat := inv (difN vs vs.length)
def covB (vs : List Nat) : Nat := vs.getD 0 0 &&& inv (difN vs vs.length)

theorem difN_lt {vs : List Nat} (h : All64 vs) : ∀ n, difN vs n < 18446744073709551616
  | 0 => (by decide : 0 < 18446744073709551616)
  | n + 1 => or_lt (difN_lt h n) (xor_lt (h n) (h 0))
theorem difN_bit (vs : List Nat) (k : Nat) : ∀ n, (difN vs n).testBit k = true ↔ ∃ j, j < n ∧ (vs.getD j 0).testBit k ≠ (vs.getD 0 0).testBit k
  | 0 => by simp [difN]
  | n + 1 => by
    simp only [difN, Nat.testBit_or, Nat.testBit_xor, Bool.or_eq_true, difN_bit vs k n]
    constructor
    · rintro (⟨j, h1, h2⟩ | h)
      · exact ⟨j, by omega, h2⟩
      · exact ⟨n, by omega, by revert h; cases (vs.getD n 0).testBit k <;> cases (vs.getD 0 0).testBit k <;> simp⟩
    · rintro ⟨j, h1, h2⟩
      by_cases e : j = n
      · subst e; right; revert h2; cases (vs.getD j 0).testBit k <;> cases (vs.getD 0 0).testBit k <;> simp
      · exact .inl ⟨j, by omega, h2⟩

theorem onesN_le (vs : List Nat) (k : Nat) : ∀ n, onesN vs k n ≤ n
  | 0 => Nat.le_refl _
  | n + 1 => by have := onesN_le vs k n; unfold onesN; split <;> omega
theorem onesN_zero (vs : List Nat) (k : Nat) : ∀ n, onesN vs k n = 0 ↔ ∀ j, j < n → (vs.getD j 0).testBit k = false
  | 0 => by simp [onesN]
  | n + 1 => by
    have := onesN_zero vs k n
    unfold onesN
    constructor
    · intro h j hj
      by_cases e : j = n
      · subst e
        by_cases q : (vs.getD j 0).testBit k = true
        · rw [if_pos q] at h; omega
        · exact Bool.eq_false_iff.2 q
      · exact this.1 (by omega) j (by omega)
    · intro h
      rw [this.2 (fun j hj => h j (by omega)), if_neg (by rw [h n (by omega)]; decide)]
theorem onesN_all (vs : List Nat) (k : Nat) : ∀ n, onesN vs k n = n ↔ ∀ j, j < n → (vs.getD j 0).testBit k = true
  | 0 => by simp [onesN]
  | n + 1 => by
    have := onesN_all vs k n
    have hl := onesN_le vs k n
    unfold onesN
    constructor
    · intro h j hj
      by_cases q : (vs.getD n 0).testBit k = true
      · rw [if_pos q] at h
        by_cases e : j = n
        · subst e; exact q
        · exact this.1 (by omega) j (by omega)
      · rw [if_neg q] at h; omega
    · intro h
      rw [this.2 (fun j hj => h j (by omega)), if_pos (h n (by omega))]

theorem covA_bit {vs : List Nat} (h : All64 vs) (hne : 0 < vs.length) {k : Nat} (hk : k < 64) : (covA vs).testBit k = true ↔ (onesN vs k vs.length = 0 ∨ onesN vs k vs.length = vs.length) := by
  unfold covA
  rw [bit_inv (difN_lt h _), decide_eq_true hk, Bool.true_and, Bool.not_eq_true', ← Bool.not_eq_true, difN_bit, onesN_zero, onesN_all]
  constructor
  · intro q
    cases e : (vs.getD 0 0).testBit k with
    | false => exact .inl fun j hj => Decidable.byContradiction fun r => q ⟨j, hj, by rw [e]; exact r⟩
    | true => exact .inr fun j hj => Decidable.byContradiction fun r => q ⟨j, hj, by rw [e]; exact r⟩
  · rintro (q | q) ⟨j, hj, r⟩
    · exact r (by rw [q j hj, q 0 hne])
    · exact r (by rw [q j hj, q 0 hne])
theorem covB_bit {vs : List Nat} (h : All64 vs) (hne : 0 < vs.length) {k : Nat} (hk : k < 64) : (covB vs).testBit k = true ↔ onesN vs k vs.length = vs.length := by
  have hA := covA_bit h hne hk
  unfold covB
  unfold covA at hA
  rw [Nat.testBit_and, Bool.and_eq_true, hA, onesN_zero, onesN_all]
  constructor
  · rintro ⟨h1, h2 | h2⟩
    · rw [h2 0 hne] at h1; exact absurd h1 (by decide)
    · exact h2
  · intro q
    exact ⟨q 0 hne, .inr q⟩
theorem covA_lt (vs : List Nat) : covA vs < 18446744073709551616 := inv_lt _
theorem covB_lt {vs : List Nat} (h : All64 vs) : covB vs < 18446744073709551616 := and_lt (h 0)
theorem cov_valid (vs : List Nat) : covA vs ||| covB vs = covA vs := by
  unfold covA covB
  apply Nat.eq_of_testBit_eq
  intro i
  rw [Nat.testBit_or, Nat.testBit_and]
  cases (vs.getD 0 0).testBit i <;> cases (inv (difN vs vs.length)).testBit i <;> rfl
/-- every value has the agreed bits -/
theorem cov_mask {vs : List Nat} (h : All64 vs) {j : Nat} (hj : j < vs.length) : vs.getD j 0 &&& covA vs = covB vs := by
  unfold covA covB
  apply Nat.eq_of_testBit_eq
  intro i
  rw [Nat.testBit_and, Nat.testBit_and]
  cases e : (inv (difN vs vs.length)).testBit i with
  | false => simp
  | true =>
    rw [bit_inv (difN_lt h _), Bool.and_eq_true, Bool.not_eq_true', ← Bool.not_eq_true, difN_bit] at e
    have : (vs.getD j 0).testBit i = (vs.getD 0 0).testBit i := Decidable.byContradiction fun r => e.2 ⟨j, hj, r⟩
    rw [this]

/-- the bits from k up -/
def topN (x k : Nat) : Nat := x / 2 ^ k * 2 ^ k
theorem topN_0 (x : Nat) : topN x 0 = x := by simp [topN]
theorem topN_64 {x : Nat} (h : x < 18446744073709551616) : topN x 64 = 0 := by
  unfold topN; rw [Nat.div_eq_of_lt (by exact h), Nat.zero_mul]
theorem topN_le (x k : Nat) : topN x k ≤ x := Nat.div_mul_le_self x _
theorem topN_yes {x k : Nat} (h : x.testBit k = true) : topN x (k + 1) ||| 2 ^ k = topN x k := by
  apply Nat.eq_of_testBit_eq
  intro i
  unfold topN
  rw [Nat.testBit_or, bit_shift, bit_shift, Nat.testBit_two_pow]
  by_cases e : i = k
  · subst e; simp [h]
  · by_cases q : k ≤ i
    · simp [q, show k + 1 ≤ i by omega, show ¬ k = i by omega]
    · simp [q, show ¬ k + 1 ≤ i by omega, show ¬ k = i by omega]
theorem topN_no {x k : Nat} (h : x.testBit k = false) : topN x (k + 1) = topN x k := by
  apply Nat.eq_of_testBit_eq
  intro i
  unfold topN
  rw [bit_shift, bit_shift]
  by_cases e : i = k
  · subst e; simp [h]
  · by_cases q : k ≤ i
    · simp [q, show k + 1 ≤ i by omega]
    · simp [q, show ¬ k + 1 ≤ i by omega]

theorem minN_lt {vs : List Nat} (h : All64 vs) : ∀ n, minN vs n < 18446744073709551616
  | 0 => h 0
  | n + 1 => by have := minN_lt h n; have := h n; unfold minN; split <;> omega
theorem maxN_lt {vs : List Nat} (h : All64 vs) : ∀ n, maxN vs n < 18446744073709551616
  | 0 => h 0
  | n + 1 => by have := maxN_lt h n; have := h n; unfold maxN; split <;> omega
theorem minN_1 (vs : List Nat) : minN vs 1 = vs.getD 0 0 := by simp [minN]
theorem maxN_1 (vs : List Nat) : maxN vs 1 = vs.getD 0 0 := by simp [maxN]
theorem minN_le (vs : List Nat) : ∀ n j, j < n → minN vs n ≤ vs.getD j 0
  | n + 1, j, hj => by
    unfold minN
    by_cases e : j = n
    · subst e; split <;> omega
    · have := minN_le vs n j (by omega); split <;> omega
theorem maxN_ge (vs : List Nat) : ∀ n j, j < n → vs.getD j 0 ≤ maxN vs n
  | n + 1, j, hj => by
    unfold maxN
    by_cases e : j = n
    · subst e; split <;> omega
    · have := maxN_ge vs n j (by omega); split <;> omega
theorem min_max (vs : List Nat) : ∀ n, minN vs n ≤ maxN vs n
  | 0 => Nat.le_refl _
  | n + 1 => by
    have := min_max vs n
    unfold minN maxN
    split <;> split <;> omega

/-- how many of the lowest n bits are set -/
def popN (x : Nat) : Nat → Nat
  | 0 => 0
  | n + 1 => popN x n + (if x.testBit n = true then 1 else 0)
theorem popN_le (x : Nat) : ∀ n, popN x n ≤ n
  | 0 => Nat.le_refl _
  | n + 1 => by have := popN_le x n; unfold popN; split <;> omega
theorem popN_half (x : Nat) : ∀ n, popN x (n + 1) = x % 2 + popN (x / 2) n
  | 0 => by
    simp only [popN, Nat.testBit_zero, decide_eq_true_eq]
    split <;> omega
  | n + 1 => by
    have h := popN_half x n
    unfold popN
    rw [h, Nat.testBit_succ]
    omega
theorem popAux_eq : ∀ n x, Lib.popAux n x = popN x n
  | 0, x => rfl
  | n + 1, x => by rw [popN_half, Lib.popAux, popAux_eq n (x / 2)]
theorem low_next (z : Nat) : low (z + 1) = low z * 2 + 1 := by
  have h1 := low_succ z
  have h2 := low_succ (z + 1)
  rw [Nat.pow_succ] at h2
  omega

/-- one less than the number of elements of a mask's set -/
def moreK (a : Nat) : Nat := low (popN (inv a) 64)

/-- what covers the values in the form -/
def coverK (vs : List Nat) (form : Int) : K :=
  if vs.length = 0 ∨ ¬ (0 ≤ form ∧ form ≤ 2) then ⟨0, 0, 0⟩
  else if form = 1 ∨ (form = 0 ∧ moreK (covA vs) ≤ maxN vs vs.length - minN vs vs.length) then newMask (covA vs) (covB vs)
  else newRange (minN vs vs.length) (maxN vs vs.length)

theorem coverK_normal {vs : List Nat} (h : All64 vs) (form : Int) : Normal (coverK vs form) := by
  unfold coverK
  split
  · exact .inl rfl
  · split
    · exact newMask_normal (covA_lt _) (cov_valid _)
    · exact newRange_normal (min_max _ _) (maxN_lt h _)
theorem coverK_holds {vs : List Nat} (h : All64 vs) (form : Int) {j : Nat} (hj : j < vs.length) : holdsK (coverK vs form) (vs.getD j 0) = true := by
  unfold coverK
  split
  · rfl
  · split
    · rw [newMask_holds (cov_valid _), holds_mask, cov_mask h hj]; exact beq_self_eq_true _
    · rw [newRange_holds (min_max _ _) (maxN_lt h _) (h j), holds_range]
      rw [decide_eq_true (minN_le vs _ j hj), decide_eq_true (maxN_ge vs _ j hj)]; rfl

/-! counting bits byte by byte -/
def rep (m : Nat) : Nat → Nat
  | 0 => 0
  | n + 1 => m + 256 * rep m n
def g1 (b : Nat) : Nat := (b / 2 &&& 85) + (b &&& 85)
def g2 (b : Nat) : Nat := (b / 4 &&& 51) + (b &&& 51)
def g3 (b : Nat) : Nat := (b / 16 + b) &&& 15
def S1 (n x : Nat) : Nat := (x / 2 &&& rep 85 n) + (x &&& rep 85 n)
def S2 (n x : Nat) : Nat := (x / 4 &&& rep 51 n) + (x &&& rep 51 n)
def S3 (n x : Nat) : Nat := (x / 16 + x) &&& rep 15 n
def dig : Nat → Nat → Nat
  | 0, _ => 0
  | n + 1, x => Lib.popAux 8 (x % 256) + 256 * dig n (x / 256)

theorem rep_succ (m n : Nat) : rep m (n + 1) = m + 256 * rep m n := rfl
theorem and_split (x m q : Nat) (hm : m < 256) : x &&& (m + 256 * q) = (x % 256 &&& m) + 256 * (x / 256 &&& q) := by
  have h1 : (x &&& (m + 256 * q)) % 2 ^ 8 = (x % 2 ^ 8 &&& (m + 256 * q) % 2 ^ 8) := Nat.and_mod_two_pow
  have h2 : (x &&& (m + 256 * q)) / 2 ^ 8 = (x / 2 ^ 8 &&& (m + 256 * q) / 2 ^ 8) := Nat.and_div_two_pow
  have e1 : (m + 256 * q) % 2 ^ 8 = m := by omega
  have e2 : (m + 256 * q) / 2 ^ 8 = q := by omega
  rw [e1] at h1
  rw [e2] at h2
  have e3 : (2 : Nat) ^ 8 = 256 := by decide
  rw [e3] at h1 h2
  rw [← h1, ← h2]
  omega
theorem and_small (x k m : Nat) (hm : m < 2 ^ k) : x &&& m = x % 2 ^ k &&& m := by
  have h1 : (x &&& m) % 2 ^ k = (x % 2 ^ k &&& m % 2 ^ k) := Nat.and_mod_two_pow
  rw [Nat.mod_eq_of_lt hm, Nat.mod_eq_of_lt (Nat.lt_of_le_of_lt Nat.and_le_right hm)] at h1
  exact h1

theorem S1_step {b y : Nat} (n : Nat) (hb : b < 256) : S1 (n + 1) (b + 256 * y) = g1 b + 256 * S1 n y := by
  unfold S1 g1
  rw [rep_succ]
  rw [and_split _ 85 _ (by decide), and_split _ 85 _ (by decide)]
  have e1 : (b + 256 * y) / 2 / 256 = y / 2 := by omega
  have e2 : (b + 256 * y) / 256 = y := by omega
  have e3 : (b + 256 * y) % 256 = b := by omega
  have e4 : (b + 256 * y) / 2 % 256 &&& 85 = b / 2 &&& 85 := by
    rw [and_small _ 7 85 (by decide), and_small (b / 2) 7 85 (by decide)]
    congr 1; omega
  rw [e1, e2, e3, e4]
  omega
theorem S2_step {b y : Nat} (n : Nat) (hb : b < 256) : S2 (n + 1) (b + 256 * y) = g2 b + 256 * S2 n y := by
  unfold S2 g2
  rw [rep_succ]
  rw [and_split _ 51 _ (by decide), and_split _ 51 _ (by decide)]
  have e1 : (b + 256 * y) / 4 / 256 = y / 4 := by omega
  have e2 : (b + 256 * y) / 256 = y := by omega
  have e3 : (b + 256 * y) % 256 = b := by omega
  have e4 : (b + 256 * y) / 4 % 256 &&& 51 = b / 4 &&& 51 := by
    rw [and_small _ 6 51 (by decide), and_small (b / 4) 6 51 (by decide)]
    congr 1; omega
  rw [e1, e2, e3, e4]
  omega
theorem S3_step {b y : Nat} (n : Nat) (hb : b ≤ 68) (hy : y % 16 ≤ 4) : S3 (n + 1) (b + 256 * y) = g3 b + 256 * S3 n y := by
  unfold S3 g3
  rw [rep_succ]
  rw [and_split _ 15 _ (by decide)]
  have e1 : ((b + 256 * y) / 16 + (b + 256 * y)) / 256 = y / 16 + y := by omega
  have e4 : ((b + 256 * y) / 16 + (b + 256 * y)) % 256 &&& 15 = (b / 16 + b) &&& 15 := by
    rw [and_small _ 4 15 (by decide), and_small (b / 16 + b) 4 15 (by decide)]
    congr 1; omega
  rw [e1, e4]
theorem g_all : ∀ b : Fin 256, g1 b.val < 256 ∧ g2 (g1 b.val) ≤ 68 ∧ g2 (g1 b.val) % 16 ≤ 4 ∧ g3 (g2 (g1 b.val)) = Lib.popAux 8 b.val := by decide +kernel
theorem swar : ∀ n x, x < 256 ^ n → S3 n (S2 n (S1 n x)) = dig n x ∧ S2 n (S1 n x) % 16 ≤ 4
  | 0, x, h => by simp [S1, S2, S3, dig, rep]
  | n + 1, x, h => by
    obtain ⟨i1, i2⟩ := swar n (x / 256) (by rw [Nat.pow_succ] at h; omega)
    obtain ⟨h1, h2, h3, h4⟩ := g_all ⟨x % 256, by omega⟩
    simp only at h1 h2 h3 h4
    have e : x = x % 256 + 256 * (x / 256) := by omega
    have e1 : S1 (n + 1) x = g1 (x % 256) + 256 * S1 n (x / 256) := by
      rw [← S1_step n (by omega), ← e]
    rw [e1, S2_step n h1, S3_step n h2 i2, i1, h4]
    exact ⟨rfl, by omega⟩
theorem pop_byte (n x : Nat) : Lib.popAux (n + 8) x = Lib.popAux 8 (x % 256) + Lib.popAux n (x / 256) := by
  show x % 2 + (x / 2 % 2 + (x / 2 / 2 % 2 + (x / 2 / 2 / 2 % 2 + (x / 2 / 2 / 2 / 2 % 2 + (x / 2 / 2 / 2 / 2 / 2 % 2 + (x / 2 / 2 / 2 / 2 / 2 / 2 % 2 + (x / 2 / 2 / 2 / 2 / 2 / 2 / 2 % 2 + Lib.popAux n (x / 2 / 2 / 2 / 2 / 2 / 2 / 2 / 2)))))))) = _
  have e : x / 2 / 2 / 2 / 2 / 2 / 2 / 2 / 2 = x / 256 := by omega
  rw [e]
  simp only [Lib.popAux]
  omega
theorem pop8_le (x : Nat) : Lib.popAux 8 x ≤ 8 := by rw [popAux_eq]; exact popN_le _ _
/-- the last three steps add the bytes up -/
theorem swar_sum {x y : Nat} (hx : x < 18446744073709551616) (hy : y = dig 8 x) :
    y + y / 256 < 18446744073709551616 ∧ (y + y / 256) + (y + y / 256) / 65536 < 18446744073709551616 ∧
    ((y + y / 256) + (y + y / 256) / 65536) + ((y + y / 256) + (y + y / 256) / 65536) / 4294967296 < 9223372036854775808 ∧
    (((y + y / 256) + (y + y / 256) / 65536) + ((y + y / 256) + (y + y / 256) / 65536) / 4294967296) % 128 = popN x 64 := by
  have e : popN x 64 = Lib.popAux 64 x := (popAux_eq 64 x).symm
  rw [e, pop_byte 56, pop_byte 48, pop_byte 40, pop_byte 32, pop_byte 24, pop_byte 16, pop_byte 8]
  have e8 : x / 256 / 256 / 256 / 256 / 256 / 256 / 256 = x / 256 / 256 / 256 / 256 / 256 / 256 / 256 % 256 := by omega
  rw [e8]
  clear e8
  simp only [dig] at hy
  have p0 := pop8_le (x % 256)
  have p1 := pop8_le (x / 256 % 256)
  have p2 := pop8_le (x / 256 / 256 % 256)
  have p3 := pop8_le (x / 256 / 256 / 256 % 256)
  have p4 := pop8_le (x / 256 / 256 / 256 / 256 % 256)
  have p5 := pop8_le (x / 256 / 256 / 256 / 256 / 256 % 256)
  have p6 := pop8_le (x / 256 / 256 / 256 / 256 / 256 / 256 % 256)
  have p7 := pop8_le (x / 256 / 256 / 256 / 256 / 256 / 256 / 256 % 256)
  generalize Lib.popAux 8 (x % 256) = c0 at *
  generalize Lib.popAux 8 (x / 256 % 256) = c1 at *
  generalize Lib.popAux 8 (x / 256 / 256 % 256) = c2 at *
  generalize Lib.popAux 8 (x / 256 / 256 / 256 % 256) = c3 at *
  generalize Lib.popAux 8 (x / 256 / 256 / 256 / 256 % 256) = c4 at *
  generalize Lib.popAux 8 (x / 256 / 256 / 256 / 256 / 256 % 256) = c5 at *
  generalize Lib.popAux 8 (x / 256 / 256 / 256 / 256 / 256 / 256 % 256) = c6 at *
  generalize Lib.popAux 8 (x / 256 / 256 / 256 / 256 / 256 / 256 / 256 % 256) = c7 at *
  clear hx e
  have a1 : y / 256 = c1 + 256 * (c2 + 256 * (c3 + 256 * (c4 + 256 * (c5 + 256 * (c6 + 256 * c7))))) := by omega
  obtain ⟨y1, hy1⟩ : ∃ y1, y1 = y + y / 256 := ⟨_, rfl⟩
  rw [← hy1]
  have b1 : y1 = (c0 + c1) + 256 * ((c1 + c2) + 256 * ((c2 + c3) + 256 * ((c3 + c4) + 256 * ((c4 + c5) + 256 * ((c5 + c6) + 256 * ((c6 + c7) + 256 * c7)))))) := by omega
  clear hy1 a1 hy
  have a2 : y1 / 65536 = (c2 + c3) + 256 * ((c3 + c4) + 256 * ((c4 + c5) + 256 * ((c5 + c6) + 256 * ((c6 + c7) + 256 * c7)))) := by omega
  obtain ⟨y2, hy2⟩ : ∃ y2, y2 = y1 + y1 / 65536 := ⟨_, rfl⟩
  rw [← hy2]
  have b2 : y2 = (c0 + c1 + c2 + c3) + 256 * ((c1 + c2 + c3 + c4) + 256 * ((c2 + c3 + c4 + c5) + 256 * ((c3 + c4 + c5 + c6) + 256 * ((c4 + c5 + c6 + c7) + 256 * ((c5 + c6 + c7) + 256 * ((c6 + c7) + 256 * c7)))))) := by omega
  have l1 : y1 < 18446744073709551616 := by omega
  clear hy2 a2 b1
  have a3 : y2 / 4294967296 = (c4 + c5 + c6 + c7) + 256 * ((c5 + c6 + c7) + 256 * ((c6 + c7) + 256 * c7)) := by omega
  refine ⟨l1, by omega, by omega, by omega⟩
end Go.Proofs.Ytpbljegjinjmnaa
