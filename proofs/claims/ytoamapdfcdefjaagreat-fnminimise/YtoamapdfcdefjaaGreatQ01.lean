/-
  Math, MathB, MathD, MathR, MathS, MathN, MathP, MathQ, MathE
-/
import Derived.Below
import Derived.Laws.BitsAllLaws
import Derived.Laws.Closers25b
import Derived.Laws.Bits64b
namespace Go.Proofs.YtoamapdfcdefjaaGreat

/-- one instruction: its four numbers -/
structure I where
  c : Int
  jt : Int
  jf : Int
  k : Int

def I.ok (x : I) : Prop := 0 ≤ x.c ∧ x.c ≤ 65535 ∧ 0 ≤ x.jt ∧ x.jt ≤ 255 ∧ 0 ≤ x.jf ∧ x.jf ≤ 255 ∧ 0 ≤ x.k ∧ x.k ≤ 4294967295
def I.zero : I := ⟨0, 0, 0, 0⟩
theorem I.zero_ok : I.zero.ok := by unfold I.ok I.zero; decide

def codesL : List Int := [0, 1, 32, 96, 97, 2, 3, 4, 12, 20, 28, 36, 44, 52, 60, 68, 76, 84, 92, 164, 172, 100, 108, 116, 124, 132, 7, 135, 5, 21, 29, 37, 45, 53, 61, 69, 77, 6, 22]
def knownB (c : Int) : Bool := codesL.contains c
def memB (c : Int) : Bool := c == 96 || c == 97 || c == 2 || c == 3
def ariB (c : Int) : Bool := c == 4 || c == 20 || c == 36 || c == 52 || c == 68 || c == 84 || c == 164 || c == 100 || c == 116 || c == 12 || c == 28 || c == 44 || c == 60 || c == 76 || c == 92 || c == 172 || c == 108 || c == 124 || c == 132
def tstB (c : Int) : Bool := c == 21 || c == 37 || c == 53 || c == 69 || c == 29 || c == 45 || c == 61 || c == 77
def isKnownB (c : Int) : Bool := c == 0 || c == 1 || c == 32 || c == 7 || c == 135 || c == 5 || c == 6 || c == 22 || memB c || ariB c || tstB c

theorem isKnownB_eq (c : Int) : isKnownB c = knownB c := by
  simp only [isKnownB, memB, ariB, tstB, knownB, codesL, List.contains_cons, List.contains_nil, Bool.or_false]
  ac_rfl

theorem tst_known (c : Int) (h : tstB c = true) : knownB c = true := by
  rw [← isKnownB_eq]; simp [isKnownB, h]

theorem tst_of_known : ∀ c ∈ codesL, tstB c = (c % 8 == 5 && c != 5) := by decide

theorem tstB_eq (c : Int) : (knownB c && c % 8 == 5 && c != 5) = tstB c := by
  cases h : knownB c with
  | false =>
    cases h2 : tstB c with
    | false => simp
    | true => rw [tst_known c h2] at h; cases h
  | true =>
    have hm : c ∈ codesL := by simpa [knownB] using h
    rw [tst_of_known c hm]; simp

/-- the fault of the instruction (c, jt, jf, k) at index i of n, as the document's model has it -/
def faultS (n i c jt jf k : Int) : Int :=
  if knownB c = false then 2
  else if c = 32 ∧ (k % 4 ≠ 0 ∨ 60 < k) then 3
  else if memB c = true ∧ 16 ≤ k then 4
  else if c = 5 ∧ n ≤ i + 1 + k then 5
  else if tstB c = true ∧ (n ≤ i + 1 + jt ∨ n ≤ i + 1 + jf) then 5
  else if c = 52 ∧ k = 0 then 6
  else if (c = 100 ∨ c = 116) ∧ 32 ≤ k then 6
  else if i = n - 1 ∧ c ≠ 6 ∧ c ≠ 22 then 7
  else 0

def jumpB (c jt jf k after : Int) : Bool := if tstB c then (decide (after ≤ jt) || decide (after ≤ jf)) else (c == 5 && decide (after ≤ k))
def badB (c k : Int) : Bool := if c = 52 then k == 0 else if c = 100 ∨ c = 116 then decide (32 ≤ k) else false

/-- the fault as the program reckons it, from the number of instructions that follow -/
def faultI (c jt jf k after : Int) : Int :=
  if isKnownB c = false then 2
  else if c = 32 ∧ (k % 4 ≠ 0 ∨ 60 < k) then 3
  else if memB c = true ∧ 16 ≤ k then 4
  else if jumpB c jt jf k after = true then 5
  else if badB c k = true then 6
  else if after = 0 ∧ c ≠ 6 ∧ c ≠ 22 then 7
  else 0

theorem faultI_eq (n i c jt jf k : Int) : faultI c jt jf k (n - 1 - i) = faultS n i c jt jf k := by
  unfold faultI faultS
  rw [isKnownB_eq]
  have h5 : tstB 5 = false := by decide
  have hj : jumpB c jt jf k (n - 1 - i) = true ↔ ((c = 5 ∧ n ≤ i + 1 + k) ∨ (tstB c = true ∧ (n ≤ i + 1 + jt ∨ n ≤ i + 1 + jf))) := by
    unfold jumpB
    by_cases ht : tstB c = true
    · have hc : c ≠ 5 := by intro e; rw [e, h5] at ht; cases ht
      simp [ht, hc]; omega
    · simp [ht]; omega
  have hb : badB c k = true ↔ ((c = 52 ∧ k = 0) ∨ ((c = 100 ∨ c = 116) ∧ 32 ≤ k)) := by
    unfold badB
    by_cases h1 : c = 52
    · subst h1; simp
    · by_cases h2 : c = 100 ∨ c = 116
      · simp [h1, h2]
      · simp [h1, h2]
  have he : (n - 1 - i = 0 ∧ c ≠ 6 ∧ c ≠ 22) ↔ (i = n - 1 ∧ c ≠ 6 ∧ c ≠ 22) := by omega
  by_cases g1 : knownB c = false
  · simp only [if_pos g1]
  simp only [if_neg g1]
  by_cases g2 : c = 32 ∧ (k % 4 ≠ 0 ∨ 60 < k)
  · simp only [if_pos g2]
  simp only [if_neg g2]
  by_cases g3 : memB c = true ∧ 16 ≤ k
  · simp only [if_pos g3]
  simp only [if_neg g3]
  by_cases g4 : c = 5 ∧ n ≤ i + 1 + k
  · rw [if_pos (hj.2 (.inl g4)), if_pos g4]
  · by_cases g5 : tstB c = true ∧ (n ≤ i + 1 + jt ∨ n ≤ i + 1 + jf)
    · rw [if_pos (hj.2 (.inr g5)), if_neg g4, if_pos g5]
    · have hn : ¬ jumpB c jt jf k (n - 1 - i) = true := fun e => (hj.1 e).elim g4 g5
      rw [if_neg hn, if_neg g4, if_neg g5]
      by_cases g6 : c = 52 ∧ k = 0
      · rw [if_pos (hb.2 (.inl g6)), if_pos g6]
      · by_cases g7 : (c = 100 ∨ c = 116) ∧ 32 ≤ k
        · rw [if_pos (hb.2 (.inr g7)), if_neg g6, if_pos g7]
        · have hn2 : ¬ badB c k = true := fun e => (hb.1 e).elim g6 g7
          rw [if_neg hn2, if_neg g6, if_neg g7]
          by_cases g8 : i = n - 1 ∧ c ≠ 6 ∧ c ≠ 22
          · rw [if_pos (he.2 g8), if_pos g8]
          · rw [if_neg (fun e => g8 (he.1 e)), if_neg g8]

theorem faultS_bd (n i c jt jf k : Int) : 0 ≤ faultS n i c jt jf k ∧ faultS n i c jt jf k ≤ 7 := by
  unfold faultS
  repeat' split
  all_goals omega

/-- the first index from i on, among the next m, whose fault is not 0 -/
def ffrom (F : Nat → Int) : Nat → Nat → Int × Int
  | 0, _ => (0, 0)
  | m + 1, i => if F i = 0 then ffrom F m (i + 1) else (F i, (i : Int))

/-- the fault at index i of the program p -/
def faultAt (p : List I) (i : Nat) : Int := faultS p.length i (p.getD i I.zero).c (p.getD i I.zero).jt (p.getD i I.zero).jf (p.getD i I.zero).k

/-- what Validate answers -/
def validL (p : List I) : Int × Int := if p.length < 1 ∨ 4096 < p.length then (1, 0) else ffrom (faultAt p) p.length 0

theorem ffrom_step0 {F : Nat → Int} {n k : Nat} (h : k < n) (h0 : F k = 0) : ffrom F (n - (k + 1)) (k + 1) = ffrom F (n - k) k := by
  have e : n - k = (n - (k + 1)) + 1 := by omega
  rw [e, ffrom, if_pos h0]
theorem ffrom_hit {F : Nat → Int} {n k : Nat} (h : k < n) (h0 : F k ≠ 0) : ffrom F (n - k) k = (F k, (k : Int)) := by
  have e : n - k = (n - (k + 1)) + 1 := by omega
  rw [e, ffrom, if_neg h0]
theorem ffrom_end {F : Nat → Int} {n : Nat} : ffrom F (n - n) n = (0, 0) := by rw [Nat.sub_self]; rfl
theorem validL_big {p : List I} (h : p.length < 1 ∨ 4096 < p.length) : validL p = (1, 0) := by unfold validL; rw [if_pos h]
theorem validL_in {p : List I} (h1 : 1 ≤ p.length) (h2 : p.length ≤ 4096) : validL p = ffrom (faultAt p) (p.length - 0) 0 := by
  unfold validL; rw [if_neg (by omega), Nat.sub_zero]
end Go.Proofs.YtoamapdfcdefjaaGreat
namespace Go.Proofs.YtoamapdfcdefjaaGreat

/-- the n lowest bytes of v, the lowest first -/
def littleL : Int → Nat → List Int
  | _, 0 => []
  | v, n + 1 => v % 256 :: littleL (v / 256) n

theorem littleL_len (v : Int) (n : Nat) : (littleL v n).length = n := by
  induction n generalizing v with
  | zero => rfl
  | succ n ih => simp [littleL, ih]

theorem littleL_step {L l : List Int} {r : Int} {n k : Nat} (h : L = l ++ littleL r (n - k)) (hk : k < n) : L = (l ++ [r % 256]) ++ littleL (r / 256) (n - (k + 1)) := by
  have e : n - k = (n - (k + 1)) + 1 := by omega
  rw [h, e, littleL]; simp

/-- the bytes of one instruction -/
def encI (x : I) : List Int := littleL x.c 2 ++ [x.jt] ++ [x.jf] ++ littleL x.k 4
def encL (p : List I) : List Int := p.flatMap encI

theorem encI_len (x : I) : (encI x).length = 8 := by simp [encI, littleL_len]
theorem encL_len (p : List I) : (encL p).length = 8 * p.length := by
  induction p with
  | nil => rfl
  | cons x p ih => simp only [encL, List.flatMap_cons, List.length_append, encI_len, List.length_cons] at *; omega

theorem encL_take {p : List I} {k : Nat} (h : k < p.length) : encL (p.take (k + 1)) = encL (p.take k) ++ encI (p.getD k I.zero) := by
  unfold encL
  rw [List.take_succ_eq_append_getElem h, List.flatMap_append]
  simp [List.getElem?_eq_getElem h]
theorem encI_eq {x : I} (h : x.ok) : encI x = [x.c % 256, x.c / 256, x.jt, x.jf, x.k % 256, x.k / 256 % 256, x.k / 65536 % 256, x.k / 16777216] := by
  obtain ⟨h1, h2, h3, h4, h5, h6, h7, h8⟩ := h
  simp only [encI, littleL, List.cons_append, List.nil_append]
  rw [show x.c / 256 % 256 = x.c / 256 by omega, show x.k / 256 / 256 % 256 = x.k / 65536 % 256 by omega, show x.k / 256 / 256 / 256 % 256 = x.k / 16777216 by omega]
end Go.Proofs.YtoamapdfcdefjaaGreat
namespace Go.Proofs.YtoamapdfcdefjaaGreat

/-- the number whose bytes are given, the lowest first -/
def numL : List Int → Int
  | [] => 0
  | x :: t => x + 256 * numL t

def isBytes (l : List Int) : Prop := ∀ x ∈ l, 0 ≤ x ∧ x ≤ 255

theorem numL_bd {l : List Int} (h : isBytes l) : 0 ≤ numL l ∧ numL l < ((256 ^ l.length : Nat) : Int) := by
  induction l with
  | nil => simp [numL]
  | cons x t ih =>
    have hx := h x (by simp)
    have ht := ih (fun y hy => h y (by simp [hy]))
    simp only [numL, List.length_cons, Nat.pow_succ]
    omega

theorem numL_bd8 {l : List Int} (h : isBytes l) (hl : l.length ≤ 8) : 0 ≤ numL l ∧ numL l ≤ 18446744073709551615 := by
  have h1 := numL_bd h
  have h2 : 256 ^ l.length ≤ 256 ^ 8 := Nat.pow_le_pow_right (by omega) hl
  have h3 : 256 ^ 8 = 18446744073709551616 := by decide
  omega

theorem numL_drop {l : List Int} {k : Nat} (h : k < l.length) : numL (l.drop k) = l.getD k 0 + 256 * numL (l.drop (k + 1)) := by
  rw [List.drop_eq_getElem_cons h, numL, List.getD_eq_getElem?_getD, List.getElem?_eq_getElem h]; rfl

theorem isBytes_drop {l : List Int} (h : isBytes l) (k : Nat) : isBytes (l.drop k) := fun x hx => h x (List.mem_of_mem_drop hx)
theorem isBytes_getD {l : List Int} (h : isBytes l) (i : Nat) : 0 ≤ l.getD i 0 ∧ l.getD i 0 ≤ 255 := by
  by_cases hi : i < l.length
  · rw [List.getD_eq_getElem?_getD, List.getElem?_eq_getElem hi]; exact h _ (List.getElem_mem hi)
  · rw [List.getD_eq_getElem?_getD, List.getElem?_eq_none (by omega)]; simp

theorem join32 (i : Nat) (a b : Int) (h1 : 0 ≤ a) (h2 : a < 2 ^ i) (h3 : 0 ≤ b) (h4 : b % 2 ^ i = 0) (h5 : a < 4294967296) (h6 : b < 4294967296) : bits .or .u32 a b = a + b := by
  rw [u32_or a b h1 h5 h3 h6, Nat.or_comm]
  have e : (b.toNat ||| a.toNat) = b.toNat + a.toNat := by
    refine nat_join i _ _ ?_ ?_
    · have : ((b.toNat % 2 ^ i : Nat) : Int) = 0 := by rw [Int.natCast_emod, Int.toNat_of_nonneg h3, Int.natCast_pow]; exact h4
      omega
    · have : ((a.toNat : Nat) : Int) < ((2 ^ i : Nat) : Int) := by rw [Int.toNat_of_nonneg h1, Int.natCast_pow]; exact h2
      omega
  rw [e]; omega
theorem join16 (i : Nat) (a b : Int) (h1 : 0 ≤ a) (h2 : a < 2 ^ i) (h3 : 0 ≤ b) (h4 : b % 2 ^ i = 0) (h5 : a < 65536) (h6 : b < 65536) : bits .or .u16 a b = a + b := by
  rw [u16_or a b h1 h5 h3 h6, Nat.or_comm]
  have e : (b.toNat ||| a.toNat) = b.toNat + a.toNat := by
    refine nat_join i _ _ ?_ ?_
    · have : ((b.toNat % 2 ^ i : Nat) : Int) = 0 := by rw [Int.natCast_emod, Int.toNat_of_nonneg h3, Int.natCast_pow]; exact h4
      omega
    · have : ((a.toNat : Nat) : Int) < ((2 ^ i : Nat) : Int) := by rw [Int.toNat_of_nonneg h1, Int.natCast_pow]; exact h2
      omega
  rw [e]; omega

theorem word_bits (x0 x1 x2 x3 : Int) (h0 : 0 ≤ x0 ∧ x0 ≤ 255) (h1 : 0 ≤ x1 ∧ x1 ≤ 255) (h2 : 0 ≤ x2 ∧ x2 ≤ 255) (h3 : 0 ≤ x3 ∧ x3 ≤ 255) :
    bits .or .u32 (bits .or .u32 (bits .or .u32 x0 (x1 * 256)) (x2 * 65536)) (x3 * 16777216) = x0 + 256 * x1 + 65536 * x2 + 16777216 * x3 := by
  rw [join32 8 x0 (x1 * 256) h0.1 (by omega) (by omega) (by omega) (by omega) (by omega)]
  rw [join32 16 _ (x2 * 65536) (by omega) (by omega) (by omega) (by omega) (by omega) (by omega)]
  rw [join32 24 _ (x3 * 16777216) (by omega) (by omega) (by omega) (by omega) (by omega) (by omega)]
  omega
theorem half_bits (x0 x1 : Int) (h0 : 0 ≤ x0 ∧ x0 ≤ 255) (h1 : 0 ≤ x1 ∧ x1 ≤ 255) : bits .or .u16 x0 (x1 * 256) = x0 + 256 * x1 := by
  rw [join16 8 x0 (x1 * 256) h0.1 (by omega) (by omega) (by omega) (by omega) (by omega)]
  omega

/-- the instruction that begins at byte 8 i -/
def decI (l : List Int) (i : Nat) : I :=
  ⟨l.getD (i * 8) 0 + 256 * l.getD (i * 8 + 1) 0, l.getD (i * 8 + 2) 0, l.getD (i * 8 + 3) 0, l.getD (i * 8 + 4) 0 + 256 * l.getD (i * 8 + 5) 0 + 65536 * l.getD (i * 8 + 6) 0 + 16777216 * l.getD (i * 8 + 7) 0⟩
def decN (l : List Int) (k : Nat) : List I := (List.range k).map (decI l)
def decBad (l : List Int) : Bool := l.length % 8 != 0 || decide (32768 < l.length)
def decL (l : List Int) : List I := if decBad l then [] else decN l (l.length / 8)
def decC (l : List Int) : Int := if decBad l then 1 else 0

theorem decN_succ (l : List Int) (k : Nat) : decN l (k + 1) = decN l k ++ [decI l k] := by simp [decN, List.range_succ]
theorem decN_len (l : List Int) (k : Nat) : (decN l k).length = k := by simp [decN]
theorem decI_ok {l : List Int} (h : isBytes l) (i : Nat) : (decI l i).ok := by
  have b := fun j => isBytes_getD h j
  have b0 := b (i * 8); have b1 := b (i * 8 + 1); have b2 := b (i * 8 + 2); have b3 := b (i * 8 + 3)
  have b4 := b (i * 8 + 4); have b5 := b (i * 8 + 5); have b6 := b (i * 8 + 6); have b7 := b (i * 8 + 7)
  unfold decI I.ok
  simp only
  omega
theorem decL_ok {l : List Int} (h : isBytes l) : ∀ x ∈ decL l, x.ok := by
  intro x hx
  unfold decL at hx
  split at hx
  · simp at hx
  · simp only [decN, List.mem_map, List.mem_range] at hx
    obtain ⟨i, _, rfl⟩ := hx
    exact decI_ok h i
end Go.Proofs.YtoamapdfcdefjaaGreat
namespace Go.Proofs.YtoamapdfcdefjaaGreat

/-- combine two words bit by bit, n bits from the lowest: a bit is 1 where the number of ones at its place is 1 (and 'one'), or 2 (and 'two') -/
def bitB (one two : Bool) : Nat → Int → Int → Int
  | 0, _, _ => 0
  | n + 1, a, b => (if (a % 2 + b % 2 = 1 ∧ one = true) ∨ (a % 2 + b % 2 = 2 ∧ two = true) then 1 else 0) + 2 * bitB one two n (a / 2) (b / 2)

theorem bitB_bd (one two : Bool) (n : Nat) (a b : Int) : 0 ≤ bitB one two n a b ∧ bitB one two n a b < ((2 ^ n : Nat) : Int) := by
  induction n generalizing a b with
  | zero => simp [bitB]
  | succ n ih =>
    have h := ih (a / 2) (b / 2)
    simp only [bitB, Nat.pow_succ]
    split <;> omega

theorem or01 : ∀ x < 2, ∀ y < 2, (x ||| y) = if x + y = 1 ∨ x + y = 2 then 1 else 0 := by decide
theorem and01 : ∀ x < 2, ∀ y < 2, (x &&& y) = if x + y = 2 then 1 else 0 := by decide
theorem xor01 : ∀ x < 2, ∀ y < 2, (x ^^^ y) = if x + y = 1 then 1 else 0 := by decide
theorem nat_or_step (a b : Nat) : a ||| b = (if a % 2 + b % 2 = 1 ∨ a % 2 + b % 2 = 2 then 1 else 0) + 2 * (a / 2 ||| b / 2) := by
  have h2 : (a ||| b) % 2 = (a % 2) ||| (b % 2) := Nat.or_mod_two_pow (n := 1)
  rw [or01 _ (Nat.mod_lt _ (by omega)) _ (Nat.mod_lt _ (by omega))] at h2
  rw [← Nat.or_div_two, ← h2]
  omega
theorem nat_and_step (a b : Nat) : a &&& b = (if a % 2 + b % 2 = 2 then 1 else 0) + 2 * (a / 2 &&& b / 2) := by
  have h2 : (a &&& b) % 2 = (a % 2) &&& (b % 2) := Nat.and_mod_two_pow (n := 1)
  rw [and01 _ (Nat.mod_lt _ (by omega)) _ (Nat.mod_lt _ (by omega))] at h2
  rw [← Nat.and_div_two, ← h2]
  omega
theorem nat_xor_step (a b : Nat) : a ^^^ b = (if a % 2 + b % 2 = 1 then 1 else 0) + 2 * (a / 2 ^^^ b / 2) := by
  have h2 : (a ^^^ b) % 2 = (a % 2) ^^^ (b % 2) := Nat.xor_mod_two_pow (n := 1)
  rw [xor01 _ (Nat.mod_lt _ (by omega)) _ (Nat.mod_lt _ (by omega))] at h2
  rw [← Nat.xor_div_two, ← h2]
  omega

theorem bitB_or (n : Nat) (a b : Nat) (ha : a < 2 ^ n) (hb : b < 2 ^ n) : bitB true true n a b = ((a ||| b : Nat) : Int) := by
  induction n generalizing a b with
  | zero => have : a = 0 := by omega
            have : b = 0 := by omega
            subst a b; rfl
  | succ n ih =>
    have h := ih (a / 2) (b / 2) (by rw [Nat.pow_succ] at ha; omega) (by rw [Nat.pow_succ] at hb; omega)
    rw [nat_or_step, bitB]
    rw [show ((a : Int) / 2) = ((a / 2 : Nat) : Int) by omega, show ((b : Int) / 2) = ((b / 2 : Nat) : Int) by omega, h]
    simp only [and_true]
    split <;> split <;> omega
theorem bitB_and (n : Nat) (a b : Nat) (ha : a < 2 ^ n) (hb : b < 2 ^ n) : bitB false true n a b = ((a &&& b : Nat) : Int) := by
  induction n generalizing a b with
  | zero => have : a = 0 := by omega
            have : b = 0 := by omega
            subst a b; rfl
  | succ n ih =>
    have h := ih (a / 2) (b / 2) (by rw [Nat.pow_succ] at ha; omega) (by rw [Nat.pow_succ] at hb; omega)
    rw [nat_and_step, bitB]
    rw [show ((a : Int) / 2) = ((a / 2 : Nat) : Int) by omega, show ((b : Int) / 2) = ((b / 2 : Nat) : Int) by omega, h]
    simp only [Bool.false_eq_true, and_false, false_or, and_true]
    split <;> split <;> omega
theorem bitB_xor (n : Nat) (a b : Nat) (ha : a < 2 ^ n) (hb : b < 2 ^ n) : bitB true false n a b = ((a ^^^ b : Nat) : Int) := by
  induction n generalizing a b with
  | zero => have : a = 0 := by omega
            have : b = 0 := by omega
            subst a b; rfl
  | succ n ih =>
    have h := ih (a / 2) (b / 2) (by rw [Nat.pow_succ] at ha; omega) (by rw [Nat.pow_succ] at hb; omega)
    rw [nat_xor_step, bitB]
    rw [show ((a : Int) / 2) = ((a / 2 : Nat) : Int) by omega, show ((b : Int) / 2) = ((b / 2 : Nat) : Int) by omega, h]
    simp only [Bool.false_eq_true, and_false, or_false, and_true]
    split <;> split <;> omega

def isWord (a : Int) : Prop := 0 ≤ a ∧ a ≤ 4294967295

theorem or_eq {a b : Int} (ha : isWord a) (hb : isWord b) : bitB true true 32 a b = bits .or .u32 a b := by
  obtain ⟨h1, h2⟩ := ha
  obtain ⟨h3, h4⟩ := hb
  rw [u32_or a b h1 (by omega) h3 (by omega), ← bitB_or 32 a.toNat b.toNat (by omega) (by omega), Int.toNat_of_nonneg h1, Int.toNat_of_nonneg h3]
theorem and_eq {a b : Int} (ha : isWord a) (hb : isWord b) : bitB false true 32 a b = bits .and .u32 a b := by
  obtain ⟨h1, h2⟩ := ha
  obtain ⟨h3, h4⟩ := hb
  rw [u32_and a b h1 (by omega) h3 (by omega), ← bitB_and 32 a.toNat b.toNat (by omega) (by omega), Int.toNat_of_nonneg h1, Int.toNat_of_nonneg h3]
theorem xor_eq {a b : Int} (ha : isWord a) (hb : isWord b) : bitB true false 32 a b = bits .xor .u32 a b := by
  obtain ⟨h1, h2⟩ := ha
  obtain ⟨h3, h4⟩ := hb
  rw [u32_xor a b h1 (by omega) h3 (by omega), ← bitB_xor 32 a.toNat b.toNat (by omega) (by omega), Int.toNat_of_nonneg h1, Int.toNat_of_nonneg h3]

/-- 2 to the n -/
def pw (n : Nat) : Int := ((2 ^ n : Nat) : Int)
theorem pw_pos (n : Nat) : 1 ≤ pw n := by unfold pw; have := Nat.one_le_two_pow (n := n); omega
theorem pw_le {n m : Nat} (h : n ≤ m) : pw n ≤ pw m := by unfold pw; have := Nat.pow_le_pow_right (n := 2) (by omega) h; omega
theorem pw_32 : pw 32 = 4294967296 := by decide
theorem pw_succ (n : Nat) : pw (n + 1) = 2 * pw n := by unfold pw; rw [Nat.pow_succ]; omega
theorem pw_add (n m : Nat) : pw (n + m) = pw n * pw m := by unfold pw; rw [Nat.pow_add, Int.natCast_mul]

/-- the new A, for an operation (the code's upper four bits) -/
def aluL (op a v : Int) : Int :=
  if op = 0 then (a + v) % 4294967296 else if op = 1 then (a - v) % 4294967296 else if op = 2 then a * v % 4294967296 else if op = 3 then a / v
  else if op = 4 then bitB true true 32 a v else if op = 5 then bitB false true 32 a v else if op = 10 then bitB true false 32 a v else if op = 8 then -a % 4294967296
  else if 32 ≤ v then 0 else if op = 6 then a * pw v.toNat % 4294967296 else a / pw v.toNat

theorem mul_halves (a v : Int) : (a % 65536 * v + a / 65536 * v % 65536 * 65536) % 4294967296 = a * v % 4294967296 := by
  have h1 : a = a % 65536 + 65536 * (a / 65536) := by omega
  generalize a % 65536 = lo at *
  generalize a / 65536 = hi at *
  have e : a * v = lo * v + hi * v * 65536 := by rw [h1, Int.add_mul, Int.mul_assoc, Int.mul_comm 65536]
  rw [e]
  generalize lo * v = x
  generalize hi * v = y
  omega

theorem shl_halves (a : Int) (n : Nat) (hn : n < 32) : a % pw (32 - n) * pw n = a * pw n % 4294967296 := by
  have e : (4294967296 : Int) = pw (32 - n) * pw n := by rw [← pw_add, ← pw_32]; congr 1; omega
  have h := Int.mul_emod_mul_of_pos a (pw (32 - n)) (show 0 < pw n by have := pw_pos n; omega)
  rw [e, Int.mul_comm (pw (32 - n)), Int.mul_comm a, h, Int.mul_comm]

theorem aluL_word (op a v : Int) (ha : isWord a) (hv : isWord v) : isWord (aluL op a v) := by
  have b := bitB_bd
  have p32 : ((2 ^ 32 : Nat) : Int) = 4294967296 := by decide
  obtain ⟨a0, a1⟩ := ha
  obtain ⟨v0, v1⟩ := hv
  unfold aluL isWord
  split
  · omega
  split
  · omega
  split
  · omega
  split
  · by_cases h0 : v = 0
    · subst h0; simp
    · have h1 := Int.ediv_nonneg a0 v0
      have h2 : a / v ≤ a := Int.ediv_le_self v a0
      omega
  split
  · have := b true true 32 a v; rw [p32] at this; omega
  split
  · have := b false true 32 a v; rw [p32] at this; omega
  split
  · have := b true false 32 a v; rw [p32] at this; omega
  split
  · omega
  split
  · omega
  split
  · omega
  · have hp := pw_pos v.toNat
    have h1 := Int.ediv_nonneg a0 (show 0 ≤ pw v.toNat by omega)
    have h2 : a / pw v.toNat ≤ a := Int.ediv_le_self _ a0
    omega

def holdL (op a v : Int) : Bool := if op = 1 then a == v else if op = 2 then decide (v < a) else if op = 3 then decide (v ≤ a) else bitB false true 32 a v != 0

/-- the word at byte k of the record -/
def wordL (r : List Int) (k : Nat) : Int := r.getD k 0 + 256 * r.getD (k + 1) 0 + 65536 * r.getD (k + 2) 0 + 16777216 * r.getD (k + 3) 0
theorem wordL_word {r : List Int} (h : isBytes r) (k : Nat) : isWord (wordL r k) := by
  have b := fun j => isBytes_getD h j
  have b0 := b k; have b1 := b (k + 1); have b2 := b (k + 2); have b3 := b (k + 3)
  unfold wordL isWord; omega

/-- the machine's registers and memory words -/
structure S where
  a : Int
  x : Int
  m : Nat → Int
def S.ok (s : S) : Prop := isWord s.a ∧ isWord s.x ∧ ∀ j, isWord (s.m j)

def opV (i : I) (s : S) : Int := if i.c / 8 % 2 = 1 then s.x else i.k
def endsR (i : I) (s : S) : Option Int :=
  if i.c = 6 then some i.k else if i.c = 22 then some s.a else if (i.c = 52 ∨ i.c = 60) ∧ opV i s = 0 then some 2147483648 else none
def nextS (r : List Int) (i : I) (s : S) : S :=
  if ariB i.c = true then { s with a := aluL (i.c / 16) s.a (opV i s) }
  else if i.c = 0 then { s with a := i.k }
  else if i.c = 1 then { s with x := i.k }
  else if i.c = 32 then { s with a := wordL r i.k.toNat }
  else if i.c = 96 then { s with a := s.m i.k.toNat }
  else if i.c = 97 then { s with x := s.m i.k.toNat }
  else if i.c = 2 then { s with m := fun j => if j = i.k.toNat then s.a else s.m j }
  else if i.c = 3 then { s with m := fun j => if j = i.k.toNat then s.x else s.m j }
  else if i.c = 7 then { s with x := s.a }
  else if i.c = 135 then { s with a := s.x }
  else s
def skipN (i : I) (s : S) : Nat := if i.c = 5 then i.k.toNat else if tstB i.c = true then (if holdL (i.c / 16) s.a (opV i s) = true then i.jt else i.jf).toNat else 0

/-- the run of what is left of a program: the result and the steps -/
def runL (r : List Int) : Nat → List I → S → Int × Int
  | 0, _, _ => (0, 0)
  | _ + 1, [], _ => (0, 0)
  | n + 1, i :: t, s => match endsR i s with
    | some v => (v, 1)
    | none => ((runL r n (t.drop (skipN i s)) (nextS r i s)).1, (runL r n (t.drop (skipN i s)) (nextS r i s)).2 + 1)

theorem opV_word {i : I} {s : S} (hi : i.ok) (hs : s.ok) : isWord (opV i s) := by
  unfold opV
  split
  · exact hs.2.1
  · exact ⟨hi.2.2.2.2.2.2.1, hi.2.2.2.2.2.2.2⟩
theorem nextS_ok {r : List Int} {i : I} {s : S} (hr : isBytes r) (hi : i.ok) (hs : s.ok) : (nextS r i s).ok := by
  have hk : isWord i.k := ⟨hi.2.2.2.2.2.2.1, hi.2.2.2.2.2.2.2⟩
  unfold nextS
  obtain ⟨ha, hx, hm⟩ := hs
  split
  · exact ⟨aluL_word _ _ _ ha (opV_word hi ⟨ha, hx, hm⟩), hx, hm⟩
  split
  · exact ⟨hk, hx, hm⟩
  split
  · exact ⟨ha, hk, hm⟩
  split
  · exact ⟨wordL_word hr _, hx, hm⟩
  split
  · exact ⟨hm _, hx, hm⟩
  split
  · exact ⟨ha, hm _, hm⟩
  split
  · exact ⟨ha, hx, fun j => by simp only; split; exact ha; exact hm j⟩
  split
  · exact ⟨ha, hx, fun j => by simp only; split; exact hx; exact hm j⟩
  split
  · exact ⟨ha, ha, hm⟩
  split
  · exact ⟨hx, hx, hm⟩
  · exact ⟨ha, hx, hm⟩
end Go.Proofs.YtoamapdfcdefjaaGreat
namespace Go.Proofs.YtoamapdfcdefjaaGreat

/-- one bit falls out of h and decides -/
def halfI (h : Int) : Int := if h % 2 = 1 then bits .xor .u32 (h / 2) 3988292384 else h / 2
def halfN : Nat → Int → Int
  | 0, h => h
  | n + 1, h => halfN n (halfI h)
/-- the checksum on its way, h so far -/
def sumF : Int → List Int → Int
  | h, [] => h
  | h, b :: r => sumF (halfN 8 (bits .xor .u32 h b)) r
def sumL (l : List Int) : Int := bits .xor .u32 (sumF 4294967295 l) 4294967295

theorem halfI_ok {h : Int} (h0 : 0 ≤ h) (h1 : h ≤ 4294967295) : 0 ≤ halfI h ∧ halfI h ≤ 4294967295 := by
  unfold halfI
  split
  · exact ⟨bits_lo_u32 _ _ _, bits_hi_u32 _ _ _⟩
  · omega
theorem halfN_ok (n : Nat) {h : Int} (h0 : 0 ≤ h) (h1 : h ≤ 4294967295) : 0 ≤ halfN n h ∧ halfN n h ≤ 4294967295 := by
  induction n generalizing h with
  | zero => exact ⟨h0, h1⟩
  | succ n ih => exact ih (halfI_ok h0 h1).1 (halfI_ok h0 h1).2
theorem sumL_ok (l : List Int) : 0 ≤ sumL l ∧ sumL l ≤ 4294967295 := ⟨bits_lo_u32 _ _ _, bits_hi_u32 _ _ _⟩

theorem halfN_step {X h : Int} {n : Nat} (e : X = halfN (n + 1) h) : X = halfN n (halfI h) := e
theorem sumF_step {X h : Int} {l : List Int} {k : Nat} (e : X = sumF h (l.drop k)) (hk : k < l.length) : X = sumF (halfN 8 (bits .xor .u32 h (l.getD k 0))) (l.drop (k + 1)) := by
  rw [List.drop_eq_getElem_cons hk] at e
  rw [e, List.getD_eq_getElem?_getD, List.getElem?_eq_getElem hk]
  rfl

/-- the lowest bit -/
theorem and1_u32 {h : Int} (h0 : 0 ≤ h) (h1 : h ≤ 4294967295) : bits .and .u32 h 1 = h % 2 := by
  rw [u32_and h 1 h0 (by omega) (by omega) (by omega)]
  have e : h.toNat &&& (1 : Int).toNat = h.toNat % 2 := Nat.and_two_pow_sub_one_eq_mod h.toNat 1
  rw [e]; omega
/-- the other bits -/
theorem not_u32 {h : Int} (h0 : 0 ≤ h) (h1 : h ≤ 4294967295) : bits .xor .u32 h 4294967295 = 4294967295 - h := by
  rw [u32_xor h 4294967295 h0 (by omega) (by omega) (by omega)]
  have h2 : h.toNat < 2 ^ 32 := by omega
  have e : h.toNat ^^^ (4294967295 : Int).toNat = 4294967295 - h.toNat := by
    have e1 : (BitVec.ofNat 32 h.toNat ^^^ BitVec.allOnes 32).toNat = (~~~ (BitVec.ofNat 32 h.toNat)).toNat := by rw [BitVec.xor_allOnes]
    rw [BitVec.toNat_xor, BitVec.toNat_not, BitVec.toNat_ofNat, Nat.mod_eq_of_lt h2, BitVec.toNat_allOnes] at e1
    simpa using e1
  rw [e]; omega
theorem not2_u32 {h : Int} (h0 : 0 ≤ h) (h1 : h ≤ 4294967295) : bits .xor .u32 IntKind.u32.max h = 4294967295 - h := by
  have e : IntKind.u32.max = 4294967295 := by decide
  rw [e, ← not_u32 h0 h1, u32_xor h 4294967295 h0 (by omega) (by omega) (by omega), u32_xor 4294967295 h (by omega) (by omega) h0 (by omega), Nat.xor_comm]
end Go.Proofs.YtoamapdfcdefjaaGreat
namespace Go.Proofs.YtoamapdfcdefjaaGreat
set_option linter.unusedVariables false

/-- one call: its numbers -/
structure C where
  arch : Int
  nr : Int
  args : List Int

def isU64 (v : Int) : Prop := 0 ≤ v ∧ v ≤ 18446744073709551615
def C.ok (x : C) : Prop := 0 ≤ x.arch ∧ x.arch ≤ 4294967295 ∧ 0 ≤ x.nr ∧ x.nr ≤ 4294967295 ∧ ∀ v ∈ x.args, isU64 v
def C.zero : C := ⟨0, 0, []⟩
theorem C.zero_ok : C.zero.ok := ⟨by decide, by decide, by decide, by decide, fun v h => by simp [C.zero] at h⟩

/-- a number in digits of seven bits, the lowest first, at most n of them -/
def varF : Nat → Int → List Int
  | 0, _ => []
  | n + 1, v => if v < 128 then [v] else (v % 128 + 128) :: varF n (v / 128)
def varL (v : Int) : List Int := varF 10 v

theorem varF_lo {n : Nat} {v : Int} (h : v < 128) : varF (n + 1) v = [v] := by simp [varF, h]
theorem varF_hi {n : Nat} {v : Int} (h : ¬ v < 128) : varF (n + 1) v = (v % 128 + 128) :: varF n (v / 128) := by simp [varF, h]
theorem varF_len (n : Nat) (v : Int) : (varF n v).length ≤ n := by
  induction n generalizing v with
  | zero => simp [varF]
  | succ n ih =>
    unfold varF
    split
    · simp
    · have := ih (v / 128); simp; exact this
theorem varF_pos (n : Nat) (v : Int) : 1 ≤ (varF (n + 1) v).length := by
  unfold varF
  split <;> simp
theorem varF_ok (n : Nat) {v : Int} (h : 0 ≤ v) : isBytes (varF n v) := by
  induction n generalizing v with
  | zero => intro x hx; simp [varF] at hx
  | succ n ih =>
    intro x hx
    unfold varF at hx
    split at hx
    · simp at hx; omega
    · simp only [List.mem_cons] at hx
      rcases hx with rfl | hx
      · omega
      · exact ih (by omega) x hx
/-- enough digits are enough -/
theorem varF_fit (n m : Nat) {v : Int} (h0 : 0 ≤ v) (h : v < ((128 ^ (n + 1) : Nat) : Int)) (h1 : n + 1 ≤ m) : varF m v = varF (n + 1) v := by
  induction n generalizing m v with
  | zero =>
    obtain ⟨m, rfl⟩ : ∃ m', m = m' + 1 := ⟨m - 1, by omega⟩
    have h2 : v < 128 := by simpa using h
    rw [varF_lo h2, varF_lo h2]
  | succ n ih =>
    obtain ⟨m, rfl⟩ : ∃ m', m = m' + 1 := ⟨m - 1, by omega⟩
    by_cases h2 : v < 128
    · rw [varF_lo h2, varF_lo h2]
    · rw [varF_hi h2, varF_hi h2, ih m (v := v / 128) (by omega) (by rw [Nat.pow_succ] at h; omega) (by omega)]
theorem varL_len (v : Int) : (varL v).length ≤ 10 := varF_len 10 v
theorem varL_len5 {v : Int} (h0 : 0 ≤ v) (h : v ≤ 4294967295) : (varL v).length ≤ 5 := by
  unfold varL
  rw [varF_fit 4 10 h0 (by have : 128 ^ 5 = 34359738368 := by decide
                           omega) (by omega)]
  exact varF_len 5 v
theorem varL_pos (v : Int) : 1 ≤ (varL v).length := varF_pos 9 v
theorem varL_ok {v : Int} (h : 0 ≤ v) : isBytes (varL v) := varF_ok 10 h

def argsB (l : List Int) : List Int := l.flatMap varL
def bodyL (c : C) : List Int := varL c.arch ++ varL c.nr ++ argsB c.args
theorem argsB_take {l : List Int} {k : Nat} (h : k < l.length) : argsB (l.take (k + 1)) = argsB (l.take k) ++ varL (l.getD k 0) := by
  unfold argsB
  rw [List.take_succ_eq_append_getElem h, List.flatMap_append]
  simp [List.getElem?_eq_getElem h]
theorem argsB_len (l : List Int) : l.length ≤ (argsB l).length ∧ (argsB l).length ≤ 10 * l.length := by
  induction l with
  | nil => simp [argsB]
  | cons x l ih =>
    have h1 := varL_len x
    have h2 := varL_pos x
    simp only [argsB, List.flatMap_cons, List.length_append, List.length_cons] at *
    omega
theorem bodyL_len {c : C} (h : c.ok) : c.args.length + 2 ≤ (bodyL c).length ∧ (bodyL c).length ≤ 10 + 10 * c.args.length := by
  obtain ⟨h1, h2, h3, h4, _⟩ := h
  have a := varL_len5 h1 h2
  have b := varL_len5 h3 h4
  have a' := varL_pos c.arch
  have b' := varL_pos c.nr
  have d := argsB_len c.args
  simp only [bodyL, List.length_append]
  omega
theorem argsB_ok {l : List Int} (h : ∀ v ∈ l, isU64 v) : isBytes (argsB l) := by
  intro x hx
  simp only [argsB, List.mem_flatMap] at hx
  obtain ⟨v, hv, hx⟩ := hx
  exact varL_ok (h v hv).1 x hx
theorem isBytes_append {l m : List Int} (h : isBytes l) (h' : isBytes m) : isBytes (l ++ m) := by
  intro x hx
  rcases List.mem_append.1 hx with hx | hx
  · exact h x hx
  · exact h' x hx
theorem bodyL_ok {c : C} (h : c.ok) : isBytes (bodyL c) :=
  isBytes_append (isBytes_append (varL_ok h.1) (varL_ok h.2.2.1)) (argsB_ok h.2.2.2.2)

def frameL (b : List Int) : List Int := [((b.length % 256 : Nat) : Int)] ++ b ++ littleL (sumL b) 4
theorem frameL_len (b : List Int) : (frameL b).length = b.length + 5 := by simp [frameL, littleL_len]
def framesL (cs : List C) : List Int := cs.flatMap fun c => frameL (bodyL c)
def logL (cs : List C) : List Int := [67, 76, 79, 71, 1] ++ littleL cs.length 2 ++ framesL cs
theorem framesL_take {cs : List C} {k : Nat} (h : k < cs.length) : framesL (cs.take (k + 1)) = framesL (cs.take k) ++ frameL (bodyL (cs.getD k C.zero)) := by
  unfold framesL
  rw [List.take_succ_eq_append_getElem h, List.flatMap_append]
  simp [List.getElem?_eq_getElem h]
def six (c : C) : Bool := c.args.length == 6
def callsOk (cs : List C) : Bool := decide (cs.length ≤ 1000) && cs.all six
def encLog (cs : List C) : List Int := if callsOk cs then logL cs else []
theorem framesL_len {cs : List C} (h : ∀ c ∈ cs, c.ok) (h6 : ∀ c ∈ cs, c.args.length = 6) : (framesL cs).length ≤ 75 * cs.length := by
  induction cs with
  | nil => simp [framesL]
  | cons c cs ih =>
    have h1 := bodyL_len (h c (by simp))
    have h2 := h6 c (by simp)
    have h3 := ih (fun x hx => h x (by simp [hx])) (fun x hx => h6 x (by simp [hx]))
    simp only [framesL, List.flatMap_cons, List.length_append, List.length_cons, frameL_len] at *
    omega
theorem logL_len {cs : List C} (h : ∀ c ∈ cs, c.ok) (h6 : ∀ c ∈ cs, c.args.length = 6) : (logL cs).length ≤ 7 + 75 * cs.length := by
  have := framesL_len h h6
  simp [logL, littleL_len]; omega

/-- the bytes of a record -/
def longsB (l : List Int) : List Int := l.flatMap fun v => littleL v 8
theorem longsB_take {l : List Int} {k : Nat} (h : k < l.length) : longsB (l.take (k + 1)) = longsB (l.take k) ++ littleL (l.getD k 0) 8 := by
  unfold longsB
  rw [List.take_succ_eq_append_getElem h, List.flatMap_append]
  simp [List.getElem?_eq_getElem h]
theorem longsB_len (l : List Int) : (longsB l).length = 8 * l.length := by
  induction l with
  | nil => rfl
  | cons x l ih => simp only [longsB, List.flatMap_cons, List.length_append, List.length_cons, littleL_len] at *; omega
def recB (c : C) (ip : Int) : List Int := if c.args.length = 6 then littleL c.nr 4 ++ littleL c.arch 4 ++ littleL ip 8 ++ longsB c.args else []

/-- four bytes at once, eight bytes at once -/
theorem little4_eq {v : Int} (h : 0 ≤ v) (h1 : v ≤ 4294967295) : littleL v 4 = [v % 256, v / 256 % 256, v / 65536 % 256, v / 16777216] := by
  simp only [littleL]
  rw [show v / 256 / 256 % 256 = v / 65536 % 256 by omega, show v / 256 / 256 / 256 % 256 = v / 16777216 by omega]
theorem little8_eq {v : Int} (h : 0 ≤ v) (h1 : v ≤ 18446744073709551615) : littleL v 8 = littleL (v % 4294967296) 4 ++ littleL (v / 4294967296) 4 := by
  simp only [littleL, List.cons_append, List.nil_append, List.cons.injEq, and_true]
  refine ⟨by omega, by omega, by omega, by omega, by omega, by omega, by omega, by omega⟩
end Go.Proofs.YtoamapdfcdefjaaGreat
namespace Go.Proofs.YtoamapdfcdefjaaGreat
set_option linter.unusedVariables false

/-- a condition: its three numbers -/
structure K where
  kind : Int
  a : Nat
  b : Nat
deriving DecidableEq

def K.zero : K := ⟨0, 0, 0⟩
def K.ok (c : K) : Prop := (-9223372036854775808 ≤ c.kind ∧ c.kind ≤ 9223372036854775807) ∧ c.a < 18446744073709551616 ∧ c.b < 18446744073709551616
theorem K.zero_ok : K.zero.ok := ⟨⟨by decide, by decide⟩, by decide, by decide⟩

def low (k : Nat) : Nat := 2 ^ k - 1
def inv (x : Nat) : Nat := 18446744073709551615 - x

theorem low_lt (k : Nat) : low k < 2 ^ k := by have := Nat.two_pow_pos k; unfold low; omega
theorem low_succ (k : Nat) : low k + 1 = 2 ^ k := by have := Nat.two_pow_pos k; unfold low; omega
theorem low_64 : low 64 = 18446744073709551615 := by decide
theorem low_le {k : Nat} (h : k ≤ 64) : low k ≤ 18446744073709551615 := by
  have := Nat.pow_le_pow_right (n := 2) (by omega) h
  have e : 2 ^ 64 = 18446744073709551616 := by decide
  unfold low; omega
theorem low_inj {i k : Nat} (h : low i = low k) : i = k := by
  have h1 := low_succ i
  have h2 := low_succ k
  rw [h] at h1
  exact (Nat.pow_right_inj (a := 2) (by omega)).1 (h1.symm.trans h2)
theorem inv_lt (x : Nat) : inv x < 18446744073709551616 := by unfold inv; omega
theorem inv_inv {x : Nat} (h : x < 18446744073709551616) : inv (inv x) = x := by unfold inv; omega
theorem bit_low (k i : Nat) : (low k).testBit i = decide (i < k) := Nat.testBit_two_pow_sub_one k i
theorem bit_inv {x : Nat} (h : x < 18446744073709551616) (i : Nat) : (inv x).testBit i = (decide (i < 64) && !x.testBit i) := by
  have e : inv x = 2 ^ 64 - (x + 1) := by unfold inv; omega
  rw [e]; exact Nat.testBit_two_pow_sub_succ (by omega) i
theorem bit_hi {x : Nat} (h : x < 18446744073709551616) {i : Nat} (hi : 64 ≤ i) : x.testBit i = false := by
  apply Nat.testBit_lt_two_pow
  exact Nat.lt_of_lt_of_le (show x < 2 ^ 64 by omega) (Nat.pow_le_pow_right (by omega) hi)
theorem and_zero_iff (x y : Nat) : x &&& y = 0 ↔ ∀ i, ¬ (x.testBit i = true ∧ y.testBit i = true) := by
  constructor
  · intro h i ⟨h1, h2⟩
    have e : (x &&& y).testBit i = true := by rw [Nat.testBit_and, h1, h2]; rfl
    rw [h, Nat.zero_testBit] at e; exact absurd e (by decide)
  · intro h
    apply Nat.eq_of_testBit_eq
    intro i
    rw [Nat.testBit_and, Nat.zero_testBit]
    have := h i
    revert this
    cases x.testBit i <;> cases y.testBit i <;> simp
theorem and_eq_iff (x y : Nat) : x &&& y = y ↔ ∀ i, y.testBit i = true → x.testBit i = true := by
  constructor
  · intro h i h1
    rw [← h, Nat.testBit_and] at h1
    revert h1
    cases x.testBit i <;> simp
  · intro h
    apply Nat.eq_of_testBit_eq
    intro i
    rw [Nat.testBit_and]
    have := h i
    revert this
    cases x.testBit i <;> cases y.testBit i <;> simp

/-- the ones are exactly the lowest bits -/
def isLow (x : Nat) : Bool := x &&& ((x + 1) % 18446744073709551616) == 0

theorem lowones : ∀ n x : Nat, x ≤ n → x &&& (x + 1) = 0 → ∃ k, x = low k
  | 0, x, hx, _ => ⟨0, (Nat.le_zero.1 hx).trans (by decide)⟩
  | n + 1, x, hx, h => by
    by_cases h0 : x = 0
    · exact ⟨0, by rw [h0]; decide⟩
    by_cases h2 : x % 2 = 1
    · obtain ⟨k, hk⟩ := lowones n (x / 2) (by omega) (by
        have e : (x &&& (x + 1)) / 2 = (x / 2) &&& (x / 2 + 1) := by
          rw [Nat.and_div_two]
          congr 1; omega
        rw [← e, h])
      refine ⟨k + 1, ?_⟩
      have h3 := low_succ k
      have h4 := low_succ (k + 1)
      have h5 : 2 ^ (k + 1) = 2 * 2 ^ k := by rw [Nat.pow_succ]; omega
      omega
    · exfalso
      have e : (x &&& (x + 1)) / 2 = (x / 2) &&& (x / 2) := by
        rw [Nat.and_div_two]
        congr 1; omega
      rw [h, Nat.and_self] at e
      omega

theorem isLow_iff {x : Nat} (hx : x < 18446744073709551616) : isLow x = true ↔ ∃ k, k ≤ 64 ∧ x = low k := by
  unfold isLow
  rw [beq_iff_eq]
  constructor
  · intro h
    by_cases h1 : x = 18446744073709551615
    · exact ⟨64, by omega, by rw [h1, low_64]⟩
    · rw [Nat.mod_eq_of_lt (by omega)] at h
      obtain ⟨k, hk⟩ := lowones x x (Nat.le_refl _) h
      refine ⟨k, ?_, hk⟩
      rcases Nat.lt_or_ge 64 k with h2 | h2
      · exfalso
        have := Nat.pow_le_pow_right (n := 2) (by omega) (show 65 ≤ k from h2)
        have e : 2 ^ 65 = 36893488147419103232 := by decide
        have := low_succ k
        omega
      · exact h2
  · rintro ⟨k, hk, rfl⟩
    by_cases h1 : k = 64
    · subst h1; rw [low_64]; decide
    · have h2 : low k + 1 < 18446744073709551616 := by
        have := Nat.pow_lt_pow_right (a := 2) (by omega) (show k < 64 by omega)
        have e : 2 ^ 64 = 18446744073709551616 := by decide
        rw [low_succ]; omega
      rw [Nat.mod_eq_of_lt h2, low_succ, and_zero_iff]
      rintro i ⟨h3, h4⟩
      rw [bit_low] at h3
      rw [Nat.testBit_two_pow] at h4
      simp at h3 h4
      omega

/-- numbers without a common bit -/
theorem add_low {a k : Nat} (h : a &&& low k = 0) : a + low k = a ||| low k ∧ a ^^^ low k = a ||| low k := by
  have h1 : a % 2 ^ k = 0 := by rw [← Nat.and_two_pow_sub_one_eq_mod]; exact h
  refine ⟨(nat_join k a (low k) h1 (low_lt k)).symm, ?_⟩
  apply Nat.eq_of_testBit_eq
  intro i
  have := (and_zero_iff _ _).1 h i
  rw [Nat.testBit_xor, Nat.testBit_or]
  revert this
  cases a.testBit i <;> cases (low k).testBit i <;> simp
theorem xor_cancel (a b : Nat) : a ^^^ (a ^^^ b) = b := by
  rw [← Nat.xor_assoc, Nat.xor_self, Nat.zero_xor]

/-- a range that is a block of 2^k numbers -/
theorem block_iff {a b k : Nat} (h : a ≤ b) : (b - a = low k ∧ a &&& low k = 0) ↔ (a ^^^ b = low k ∧ a &&& (a ^^^ b) = 0) := by
  constructor
  · rintro ⟨h1, h2⟩
    have e : b = a ^^^ low k := by rw [(add_low h2).2, ← (add_low h2).1]; omega
    have e2 : a ^^^ b = low k := by rw [e, xor_cancel]
    exact ⟨e2, by rw [e2]; exact h2⟩
  · rintro ⟨h1, h2⟩
    rw [h1] at h2
    have e : b = a ^^^ low k := by rw [← h1, xor_cancel]
    rw [(add_low h2).2, ← (add_low h2).1] at e
    exact ⟨by omega, h2⟩

def newMask (m v : Nat) : K := if m = 0 then ⟨0, 0, 0⟩ else ⟨1, m, v⟩
def newRange (l h : Nat) : K := if isLow (l ^^^ h) = true ∧ l &&& (l ^^^ h) = 0 then newMask (inv (l ^^^ h)) l else ⟨2, l, h⟩
def normK (c : K) : K := if c.kind = 1 then newMask c.a c.b else if c.kind = 2 then newRange c.a c.b else ⟨0, 0, 0⟩
def validK (c : K) : Bool := (c.kind == 0 && c.a == 0 && c.b == 0) || (c.kind == 1 && c.a ||| c.b == c.a) || (c.kind == 2 && decide (c.a ≤ c.b))
def holdsK (c : K) (v : Nat) : Bool := if c.kind = 1 then v &&& c.a == c.b else if c.kind = 2 then decide (c.a ≤ v) && decide (v ≤ c.b) else true

theorem xor_lt {a b : Nat} (h : a < 18446744073709551616) (h' : b < 18446744073709551616) : a ^^^ b < 18446744073709551616 := Nat.xor_lt_two_pow (n := 64) h h'
theorem and_lt {a b : Nat} (h : a < 18446744073709551616) : a &&& b < 18446744073709551616 := Nat.lt_of_le_of_lt Nat.and_le_left h
theorem or_lt {a b : Nat} (h : a < 18446744073709551616) (h' : b < 18446744073709551616) : a ||| b < 18446744073709551616 := Nat.or_lt_two_pow (n := 64) h h'

theorem newRange_block {l h k : Nat} (hk : k ≤ 64) (hlh : l ≤ h) (hh : h < 18446744073709551616) (e : h - l = low k) (e2 : l &&& low k = 0) :
    newRange l h = if k = 64 then ⟨0, 0, 0⟩ else ⟨1, inv (low k), l⟩ := by
  obtain ⟨h1, h2⟩ := (block_iff hlh).1 ⟨e, e2⟩
  have h3 : isLow (l ^^^ h) = true := (isLow_iff (xor_lt (by omega) hh)).2 ⟨k, hk, h1⟩
  unfold newRange newMask
  rw [if_pos ⟨h3, h2⟩, h1]
  by_cases e64 : k = 64
  · subst e64
    rw [if_pos rfl, if_pos (by rw [low_64]; rfl)]
  · rw [if_neg e64, if_neg]
    intro e5
    apply e64
    have := low_le hk
    apply low_inj
    rw [low_64]
    unfold inv at e5
    omega

theorem newRange_none {l h : Nat} (hlh : l ≤ h) (hh : h < 18446744073709551616) (e : ∀ k, k ≤ 64 → ¬ (h - l = low k ∧ l &&& low k = 0)) : newRange l h = ⟨2, l, h⟩ := by
  unfold newRange
  rw [if_neg]
  rintro ⟨h1, h2⟩
  obtain ⟨k, hk, h3⟩ := (isLow_iff (xor_lt (by omega) hh)).1 h1
  exact e k hk ((block_iff hlh).2 ⟨h3, h2⟩)

/-- a valid mask has no bit of its value outside -/
theorem valid_mask {a b : Nat} (h : a ||| b = a) : ∀ i, b.testBit i = true → a.testBit i = true := by
  intro i hi
  rw [← h, Nat.testBit_or, hi, Bool.or_true]
theorem mask_free {a b : Nat} (ha : a < 18446744073709551616) (h : a ||| b = a) : b &&& inv a = 0 := by
  rw [and_zero_iff]
  rintro i ⟨h1, h2⟩
  rw [bit_inv ha, valid_mask h i h1] at h2
  simp at h2

/-- a mask whose set is a range: this range's normal condition is the mask's -/
theorem mask_block {a b : Nat} (ha : a < 18446744073709551616) (h : a ||| b = a) (h1 : isLow (inv a) = true) :
    b + inv a = b ||| inv a ∧ b + inv a < 18446744073709551616 ∧ newRange b (b + inv a) = newMask a b := by
  obtain ⟨k, hk, e⟩ := (isLow_iff (inv_lt a)).1 h1
  have h2 := mask_free ha h
  have hb : b < 18446744073709551616 := by
    have := @Nat.right_le_or a b
    omega
  have h3 := add_low (by rw [← e]; exact h2 : b &&& low k = 0)
  have h4 : b + inv a < 18446744073709551616 := by rw [e, h3.1]; exact or_lt hb (by rw [← e]; exact inv_lt a)
  refine ⟨by rw [e]; exact h3.1, h4, ?_⟩
  obtain ⟨h5, h6⟩ := (block_iff (a := b) (b := b + inv a) (k := k) (by omega)).1 ⟨by omega, by rw [← e]; exact h2⟩
  unfold newRange
  rw [if_pos ⟨by rw [h5, ← e]; exact h1, h6⟩, h5, ← e, inv_inv ha]

theorem bit_shift (v k i : Nat) : (v / 2 ^ k * 2 ^ k).testBit i = (decide (k ≤ i) && v.testBit i) := by
  rw [Nat.testBit_mul_two_pow, Nat.testBit_div_two_pow]
  by_cases h : k ≤ i
  · simp [h, Nat.sub_add_cancel h]
  · simp [h]
theorem and_inv_low {v k : Nat} (hv : v < 18446744073709551616) (hk : k ≤ 64) : v &&& inv (low k) = v / 2 ^ k * 2 ^ k := by
  apply Nat.eq_of_testBit_eq
  intro i
  have := low_le hk
  rw [Nat.testBit_and, bit_inv (by omega), bit_low, bit_shift]
  by_cases h : i < 64
  · by_cases h1 : i < k
    · simp [h, h1, show ¬ k ≤ i by omega]
    · simp [h, h1, show k ≤ i by omega]
  · simp [bit_hi hv (show 64 ≤ i by omega)]
theorem block_mem {v k a : Nat} (hv : v < 18446744073709551616) (hk : k ≤ 64) (ha : a &&& low k = 0) : (v &&& inv (low k) = a) ↔ (a ≤ v ∧ v ≤ a + low k) := by
  have h1 : a % 2 ^ k = 0 := by rw [← Nat.and_two_pow_sub_one_eq_mod]; exact ha
  rw [and_inv_low hv hk]
  have h2 := low_succ k
  have hp := Nat.two_pow_pos k
  obtain ⟨q, hq⟩ : ∃ q, a = 2 ^ k * q := (Nat.dvd_iff_mod_eq_zero.2 h1)
  generalize 2 ^ k = p at *
  constructor
  · intro h
    have h3 := Nat.div_mul_le_self v p
    have h4 := Nat.lt_div_mul_add hp (a := v)
    omega
  · rintro ⟨h3, h4⟩
    have : v / p = q := by
      apply Nat.div_eq_of_lt_le
      · rw [Nat.mul_comm]; omega
      · rw [Nat.add_mul, Nat.mul_comm q p]; omega
    rw [this, Nat.mul_comm, ← hq]

theorem K.valid_cases {c : K} (h : validK c = true) : (c = ⟨0, 0, 0⟩) ∨ (∃ a b, c = ⟨1, a, b⟩ ∧ a ||| b = a) ∨ (∃ a b, c = ⟨2, a, b⟩ ∧ a ≤ b) := by
  obtain ⟨k, a, b⟩ := c
  simp only [validK, Bool.or_eq_true, Bool.and_eq_true, beq_iff_eq, decide_eq_true_eq] at h
  rcases h with (⟨⟨rfl, rfl⟩, rfl⟩ | ⟨rfl, h⟩) | ⟨rfl, h⟩
  · exact .inl rfl
  · exact .inr (.inl ⟨a, b, rfl, h⟩)
  · exact .inr (.inr ⟨a, b, rfl, h⟩)

/-- what a normal condition looks like -/
def Normal (c : K) : Prop := c = ⟨0, 0, 0⟩ ∨ (∃ a b, c = ⟨1, a, b⟩ ∧ a ≠ 0 ∧ a < 18446744073709551616 ∧ a ||| b = a) ∨
  (∃ l h, c = ⟨2, l, h⟩ ∧ l ≤ h ∧ h < 18446744073709551616 ∧ ∀ k, k ≤ 64 → ¬ (h - l = low k ∧ l &&& low k = 0))

theorem newMask_normal {a b : Nat} (ha : a < 18446744073709551616) (h : a ||| b = a) : Normal (newMask a b) := by
  unfold newMask
  by_cases h0 : a = 0
  · rw [if_pos h0]; exact .inl rfl
  · rw [if_neg h0]; exact .inr (.inl ⟨a, b, rfl, h0, ha, h⟩)
theorem or_inv_low {l k : Nat} (hl : l < 18446744073709551616) (hk : k ≤ 64) (h : l &&& low k = 0) : inv (low k) ||| l = inv (low k) := by
  apply Nat.eq_of_testBit_eq
  intro i
  have h0 := low_le hk
  have h1 := (and_zero_iff _ _).1 h i
  rw [Nat.testBit_or, bit_inv (by omega), bit_low]
  rw [bit_low] at h1
  by_cases h2 : i < 64
  · by_cases h3 : i < k
    · simp [h3] at h1; simp [h3, h1]
    · simp [h2, h3]
  · simp [bit_hi hl (show 64 ≤ i by omega)]
theorem newRange_normal {l h : Nat} (hlh : l ≤ h) (hh : h < 18446744073709551616) : Normal (newRange l h) := by
  by_cases e : ∃ k, k ≤ 64 ∧ h - l = low k ∧ l &&& low k = 0
  · obtain ⟨k, hk, e1, e2⟩ := e
    rw [newRange_block hk hlh hh e1 e2]
    by_cases e64 : k = 64
    · rw [if_pos e64]; exact .inl rfl
    · rw [if_neg e64]
      refine .inr (.inl ⟨_, _, rfl, ?_, inv_lt _, or_inv_low (by omega) hk e2⟩)
      intro e5
      apply e64
      have := low_le hk
      apply low_inj
      rw [low_64]
      unfold inv at e5
      omega
  · have e' : ∀ k, k ≤ 64 → ¬ (h - l = low k ∧ l &&& low k = 0) := fun k hk hx => e ⟨k, hk, hx.1, hx.2⟩
    rw [newRange_none hlh hh e']
    exact .inr (.inr ⟨l, h, rfl, hlh, hh, e'⟩)
theorem normK_normal {c : K} (ho : c.ok) (hv : validK c = true) : Normal (normK c) := by
  rcases K.valid_cases hv with rfl | ⟨a, b, rfl, h⟩ | ⟨a, b, rfl, h⟩
  · exact .inl rfl
  · exact newMask_normal ho.2.1 h
  · exact newRange_normal h ho.2.2

theorem Normal.ok {c : K} (h : Normal c) : c.ok := by
  rcases h with rfl | ⟨a, b, rfl, h0, ha, h⟩ | ⟨a, b, rfl, h, hb, _⟩
  · exact K.zero_ok
  · have := @Nat.right_le_or a b
    exact ⟨⟨by simp, by simp⟩, ha, by simp only; omega⟩
  · exact ⟨⟨by simp, by simp⟩, by simp only; omega, hb⟩
theorem Normal.valid {c : K} (h : Normal c) : validK c = true := by
  rcases h with rfl | ⟨a, b, rfl, h0, ha, h⟩ | ⟨a, b, rfl, h, hb, _⟩
  · rfl
  · simp [validK, h]
  · simp [validK, h]
theorem Normal.norm {c : K} (h : Normal c) : normK c = c := by
  rcases h with rfl | ⟨a, b, rfl, h0, ha, h⟩ | ⟨a, b, rfl, h, hb, h2⟩
  · rfl
  · simp [normK, newMask, h0]
  · exact newRange_none h hb h2

theorem holds_mask {a b v : Nat} : holdsK ⟨1, a, b⟩ v = (v &&& a == b) := rfl
theorem holds_range {a b v : Nat} : holdsK ⟨2, a, b⟩ v = (decide (a ≤ v) && decide (v ≤ b)) := rfl
theorem holds_any {v : Nat} : holdsK ⟨0, 0, 0⟩ v = true := rfl

theorem newMask_holds {a b v : Nat} (h : a ||| b = a) : holdsK (newMask a b) v = holdsK ⟨1, a, b⟩ v := by
  unfold newMask
  by_cases h0 : a = 0
  · subst h0
    have : b = 0 := by rw [Nat.zero_or] at h; exact h
    subst this
    rw [if_pos rfl, holds_any, holds_mask, Nat.and_zero]; rfl
  · rw [if_neg h0]
theorem newRange_holds {l h v : Nat} (hlh : l ≤ h) (hh : h < 18446744073709551616) (hv : v < 18446744073709551616) : holdsK (newRange l h) v = holdsK ⟨2, l, h⟩ v := by
  by_cases e : ∃ k, k ≤ 64 ∧ h - l = low k ∧ l &&& low k = 0
  · obtain ⟨k, hk, e1, e2⟩ := e
    have e3 : holdsK (newRange l h) v = (v &&& inv (low k) == l) := by
      obtain ⟨h1, h2⟩ := (block_iff hlh).1 ⟨e1, e2⟩
      have h3 : isLow (l ^^^ h) = true := (isLow_iff (xor_lt (by omega) hh)).2 ⟨k, hk, h1⟩
      unfold newRange
      rw [if_pos ⟨h3, h2⟩, h1, newMask_holds (or_inv_low (by omega) hk e2), holds_mask]
    rw [e3, holds_range]
    have h4 := block_mem hv hk e2
    rw [show l + low k = h by omega] at h4
    rw [Bool.eq_iff_iff, beq_iff_eq, h4]
    simp
  · rw [newRange_none hlh hh fun k hk hx => e ⟨k, hk, hx.1, hx.2⟩]
theorem normK_holds {c : K} {v : Nat} (ho : c.ok) (hv : validK c = true) (h : v < 18446744073709551616) : holdsK (normK c) v = holdsK c v := by
  rcases K.valid_cases hv with rfl | ⟨a, b, rfl, h1⟩ | ⟨a, b, rfl, h1⟩
  · rfl
  · exact newMask_holds h1
  · exact newRange_holds h1 ho.2.2 h

/-- one set within another -/
def Within (a b : K) : Prop := ∀ v, v < 18446744073709551616 → holdsK a v = true → holdsK b v = true

theorem within_norm {a b : K} (ha : a.ok) (hb : b.ok) (va : validK a = true) (vb : validK b = true) : Within (normK a) (normK b) ↔ Within a b := by
  constructor
  · intro h v hv h1
    rw [← normK_holds hb vb hv]; exact h v hv (by rw [normK_holds ha va hv]; exact h1)
  · intro h v hv h1
    rw [normK_holds hb vb hv]; exact h v hv (by rw [← normK_holds ha va hv]; exact h1)

/-- the smallest and the greatest of a set -/
def lowK (c : K) : Nat := if c.kind = 1 then c.b else if c.kind = 2 then c.a else 0
def highK (c : K) : Nat := if c.kind = 1 then c.b ||| inv c.a else if c.kind = 2 then c.b else 18446744073709551615

theorem mask_bits {a b v : Nat} : v &&& a = b ↔ ∀ i, (v.testBit i && a.testBit i) = b.testBit i := by
  constructor
  · rintro rfl i; rw [Nat.testBit_and]
  · intro h; apply Nat.eq_of_testBit_eq; intro i; rw [Nat.testBit_and, h]

theorem le_or_of_bits {x y : Nat} (h : ∀ i, x.testBit i = true → y.testBit i = true) : x ≤ y := by
  have e : x ||| y = y := by
    apply Nat.eq_of_testBit_eq; intro i
    have := h i
    rw [Nat.testBit_or]
    revert this
    cases x.testBit i <;> cases y.testBit i <;> simp
  rw [← e]; exact Nat.left_le_or

theorem bounds_mask {a b : Nat} (ha : a < 18446744073709551616) (h : a ||| b = a) :
    holdsK ⟨1, a, b⟩ b = true ∧ holdsK ⟨1, a, b⟩ (b ||| inv a) = true ∧ ∀ v, v < 18446744073709551616 → holdsK ⟨1, a, b⟩ v = true → b ≤ v ∧ v ≤ b ||| inv a := by
  have hb := valid_mask h
  refine ⟨?_, ?_, fun v hv h1 => ?_⟩
  · rw [holds_mask, beq_iff_eq, mask_bits]
    intro i
    have := hb i
    revert this
    cases a.testBit i <;> cases b.testBit i <;> simp
  · rw [holds_mask, beq_iff_eq, mask_bits]
    intro i
    have := hb i
    rw [Nat.testBit_or, bit_inv ha]
    revert this
    cases a.testBit i <;> cases b.testBit i <;> simp
  · rw [holds_mask, beq_iff_eq, mask_bits] at h1
    constructor
    · apply le_or_of_bits
      intro i hi
      have := h1 i
      rw [hi] at this
      revert this
      cases v.testBit i <;> simp
    · apply le_or_of_bits
      intro i hi
      have h2 := h1 i
      rw [hi] at h2
      rw [Nat.testBit_or, bit_inv ha, ← h2]
      have : i < 64 := by
        rcases Nat.lt_or_ge i 64 with h3 | h3
        · exact h3
        · rw [bit_hi hv h3] at hi; exact absurd hi (by decide)
      simp [this]

theorem bounds_of {c : K} (h : Normal c) : lowK c < 18446744073709551616 ∧ highK c < 18446744073709551616 ∧ holdsK c (lowK c) = true ∧ holdsK c (highK c) = true ∧ ∀ v, v < 18446744073709551616 → holdsK c v = true → lowK c ≤ v ∧ v ≤ highK c := by
  have ho := h.ok
  rcases h with rfl | ⟨a, b, rfl, h0, ha, h⟩ | ⟨a, b, rfl, h, hb, h2⟩
  · exact ⟨by decide, by decide, rfl, rfl, fun v hv _ => ⟨by simp [lowK], by simp [highK]; omega⟩⟩
  · exact ⟨ho.2.2, or_lt ho.2.2 (inv_lt _), bounds_mask ha h⟩
  · refine ⟨ho.2.1, hb, ?_, ?_, fun v hv h1 => ?_⟩
    · simp [holds_range, lowK, h]
    · simp [holds_range, highK, h]
    · simpa [holds_range, lowK, highK] using h1
end Go.Proofs.YtoamapdfcdefjaaGreat
namespace Go.Proofs.YtoamapdfcdefjaaGreat
set_option linter.unusedVariables false

/-- so many bits a number has -/
def lenN (x : Nat) : Nat := if x = 0 then 0 else Nat.log2 x + 1
theorem lenN_lt (x : Nat) : x < 2 ^ lenN x := by
  unfold lenN
  by_cases h : x = 0
  · rw [if_pos h, h]; decide
  · rw [if_neg h]; exact Nat.lt_log2_self
theorem lenN_ge {x : Nat} (h : x ≠ 0) : 2 ^ (lenN x - 1) ≤ x := by
  unfold lenN
  rw [if_neg h, Nat.add_sub_cancel]; exact Nat.log2_self_le h
theorem lenN_le {x : Nat} (h : x < 18446744073709551616) : lenN x ≤ 64 := by
  unfold lenN
  by_cases h0 : x = 0
  · rw [if_pos h0]; omega
  · rw [if_neg h0]
    have : Nat.log2 x < 64 := (Nat.log2_lt h0).2 h
    omega
theorem lenN_uniq {x n : Nat} (h : x < 2 ^ n) (h1 : n = 0 ∨ 2 ^ (n - 1) ≤ x) : lenN x = n := by
  unfold lenN
  by_cases h0 : x = 0
  · subst h0
    rw [if_pos rfl]
    rcases h1 with rfl | h1
    · rfl
    · exact absurd h1 (by have := Nat.two_pow_pos (n - 1); omega)
  · rw [if_neg h0]
    rcases h1 with rfl | h1
    · simp at h; omega
    · have h2 : Nat.log2 x < n := (Nat.log2_lt h0).2 h
      have h3 : n - 1 ≤ Nat.log2 x := (Nat.le_log2 h0).2 h1
      omega

/-- all numbers of a range agree in the bits from the length on -/
theorem range_top {l h x n : Nat} (e : l ^^^ h < 2 ^ n) (h1 : l ≤ x) (h2 : x ≤ h) {i : Nat} (hi : n ≤ i) : x.testBit i = l.testBit i := by
  have e1 : l / 2 ^ n = h / 2 ^ n := by
    have e2 : (l ^^^ h) / 2 ^ n = 0 := Nat.div_eq_of_lt e
    rw [Nat.xor_div_two_pow] at e2
    have e6 := xor_cancel (l / 2 ^ n) (h / 2 ^ n)
    rw [e2, Nat.xor_zero] at e6; exact e6
  have e3 : l / 2 ^ n ≤ x / 2 ^ n := Nat.div_le_div_right h1
  have e4 : x / 2 ^ n ≤ h / 2 ^ n := Nat.div_le_div_right h2
  have e5 : x / 2 ^ n = l / 2 ^ n := by omega
  have b1 : (x / 2 ^ n).testBit (i - n) = x.testBit (i - n + n) := Nat.testBit_div_two_pow x (i - n)
  have b2 : (l / 2 ^ n).testBit (i - n) = l.testBit (i - n + n) := Nat.testBit_div_two_pow l (i - n)
  rw [e5, b2, Nat.sub_add_cancel hi] at b1
  exact b1.symm

/-- and it has both values of every bit below -/
theorem range_low {l h : Nat} (hlh : l ≤ h) (h0 : l ^^^ h ≠ 0) : ∃ y, l ≤ y ∧ y + 1 ≤ h ∧ ∀ i, i < lenN (l ^^^ h) → y.testBit i ≠ (y + 1).testBit i := by
  have hlt := lenN_lt (l ^^^ h)
  have hge := lenN_ge h0
  have hn : 0 < lenN (l ^^^ h) := by unfold lenN; rw [if_neg h0]; omega
  obtain ⟨m, hm⟩ : ∃ m, lenN (l ^^^ h) = m + 1 := ⟨lenN (l ^^^ h) - 1, by omega⟩
  rw [hm] at hlt hge ⊢
  rw [Nat.add_sub_cancel] at hge
  have hp := Nat.two_pow_pos m
  have e1 : (l ^^^ h) / 2 ^ m = 1 := by
    apply Nat.div_eq_of_lt_le
    · omega
    · rw [Nat.pow_succ] at hlt; omega
  rw [Nat.xor_div_two_pow] at e1
  have e2 : h / 2 ^ m = l / 2 ^ m ^^^ 1 := by rw [← e1, xor_cancel]
  have e3 : l / 2 ^ m ≤ h / 2 ^ m := Nat.div_le_div_right hlh
  have e4 : (h / 2 ^ m) / 2 = (l / 2 ^ m) / 2 := by rw [e2, Nat.xor_div_two]; simp
  have e5 : (h / 2 ^ m) % 2 = (l / 2 ^ m + 1) % 2 := by
    have e9 : (h / 2 ^ m).testBit 0 = ((l / 2 ^ m).testBit 0 ^^ (1 : Nat).testBit 0) := by rw [e2, Nat.testBit_xor]
    rw [Nat.testBit_zero, Nat.testBit_zero, Nat.testBit_zero] at e9
    rcases Nat.mod_two_eq_zero_or_one (l / 2 ^ m) with g | g <;> rw [g] at e9 <;> simp at e9 <;> omega
  have e6 : ∃ q, l / 2 ^ m = 2 * q ∧ h / 2 ^ m = 2 * q + 1 := ⟨(l / 2 ^ m) / 2, by omega, by omega⟩
  obtain ⟨q, e7, e8⟩ := e6
  have l1 := Nat.lt_div_mul_add hp (a := l)
  have h1 := Nat.div_mul_le_self h (2 ^ m)
  rw [e7] at l1
  rw [e8] at h1
  have hl := low_succ m
  refine ⟨2 ^ m * (2 * q) + low m, ?_, ?_, fun i hi => ?_⟩
  · rw [Nat.mul_comm (2 ^ m)]; omega
  · rw [Nat.add_mul, Nat.one_mul] at h1
    rw [Nat.mul_comm (2 ^ m)]; omega
  · have y1 : 2 ^ m * (2 * q) + low m + 1 = 2 ^ m * (2 * q + 1) + 0 := by rw [Nat.mul_add, Nat.mul_one]; omega
    rw [y1, Nat.testBit_two_pow_mul_add _ (low_lt m), Nat.testBit_two_pow_mul_add _ hp]
    by_cases hi2 : i < m
    · rw [if_pos hi2, if_pos hi2, bit_low]; simp [hi2]
    · have : i = m := by omega
      subst this
      rw [if_neg hi2, if_neg hi2, Nat.sub_self, Nat.testBit_zero, Nat.testBit_zero]
      have a1 : 2 * q % 2 = 0 := by omega
      have a2 : (2 * q + 1) % 2 = 1 := by omega
      simp

/-- the bits in which all numbers of a set agree, and their value -/
def agreeM (c : K) : Nat := if c.kind = 1 then c.a else if c.kind = 2 then inv (low (lenN (c.a ^^^ c.b))) else 0
def agreeV (c : K) : Nat := if c.kind = 1 then c.b else if c.kind = 2 then c.a &&& inv (low (lenN (c.a ^^^ c.b))) else 0
def withinI (a b : K) : Bool :=
  if b.kind = 1 then (agreeM a &&& b.a == b.a) && (agreeV a &&& b.a == b.b) else if b.kind = 2 then decide (b.a ≤ lowK a) && decide (highK a ≤ b.b) else true

theorem bit_lt64 {x : Nat} (h : x < 18446744073709551616) {i : Nat} (hi : x.testBit i = true) : i < 64 := by
  rcases Nat.lt_or_ge i 64 with h1 | h1
  · exact h1
  · rw [bit_hi h h1] at hi; exact absurd hi (by decide)

theorem range_mask {l h m v : Nat} (hlh : l ≤ h) (hh : h < 18446744073709551616) (hm : m < 18446744073709551616) :
    Within ⟨2, l, h⟩ ⟨1, m, v⟩ ↔ (inv (low (lenN (l ^^^ h))) &&& m = m ∧ l &&& inv (low (lenN (l ^^^ h))) &&& m = v) := by
  have hx := xor_lt (show l < 18446744073709551616 by omega) hh
  have hn := lenN_le hx
  have hlt := lenN_lt (l ^^^ h)
  have bi : ∀ i, (inv (low (lenN (l ^^^ h)))).testBit i = (decide (i < 64) && !decide (i < lenN (l ^^^ h))) := fun i => by
    rw [bit_inv (by have := low_le hn; omega), bit_low]
  have key : (inv (low (lenN (l ^^^ h))) &&& m = m) → l &&& inv (low (lenN (l ^^^ h))) &&& m = l &&& m := fun e => by rw [Nat.and_assoc, e]
  constructor
  · intro hw
    have w : ∀ x, l ≤ x → x ≤ h → x &&& m = v := fun x h1 h2 => by
      have := hw x (by omega) (by rw [holds_range]; simp [h1, h2])
      rwa [holds_mask, beq_iff_eq] at this
    have e : inv (low (lenN (l ^^^ h))) &&& m = m := by
      rw [and_eq_iff]
      intro i hi
      rw [bi]
      by_cases h1 : i < lenN (l ^^^ h)
      · exfalso
        have h0 : l ^^^ h ≠ 0 := fun h0 => by rw [h0] at h1; exact absurd h1 (by unfold lenN; simp)
        obtain ⟨y, y1, y2, y3⟩ := range_low hlh h0
        have b1 := mask_bits.1 (w y y1 (by omega)) i
        have b2 := mask_bits.1 (w (y + 1) (by omega) y2) i
        rw [hi, Bool.and_true] at b1 b2
        exact y3 i h1 (b1.trans b2.symm)
      · simp [h1, bit_lt64 hm hi]
    exact ⟨e, by rw [key e]; exact w l (Nat.le_refl _) hlh⟩
  · rintro ⟨e, e2⟩ x hxl hx2
    rw [holds_range] at hx2
    simp only [Bool.and_eq_true, decide_eq_true_eq] at hx2
    rw [holds_mask, beq_iff_eq, ← e2, key e]
    apply Nat.eq_of_testBit_eq
    intro i
    rw [Nat.testBit_and, Nat.testBit_and]
    by_cases hi : m.testBit i = true
    · have := (and_eq_iff _ _).1 e i hi
      rw [bi] at this
      simp at this
      rw [range_top hlt hx2.1 hx2.2 this.2]
    · rw [Bool.not_eq_true] at hi; rw [hi, Bool.and_false, Bool.and_false]

theorem flip_lt {x i : Nat} (h : x < 18446744073709551616) (hi : i < 64) : x ^^^ 2 ^ i < 18446744073709551616 :=
  xor_lt h (Nat.pow_lt_pow_right (a := 2) (by omega) hi)

theorem mask_mask {am av m v : Nat} (ha : am < 18446744073709551616) (hm : m < 18446744073709551616) (h : am ||| av = am) :
    Within ⟨1, am, av⟩ ⟨1, m, v⟩ ↔ (am &&& m = m ∧ av &&& m = v) := by
  have hb := valid_mask h
  have hav : av < 18446744073709551616 := by have := @Nat.right_le_or am av; omega
  have in0 := (bounds_mask ha h).1
  constructor
  · intro hw
    have e0 := hw av hav in0
    rw [holds_mask, beq_iff_eq] at e0
    refine ⟨?_, e0⟩
    rw [and_eq_iff]
    intro i hi
    cases hc : am.testBit i with
    | true => rfl
    | false =>
      exfalso
      have i64 := bit_lt64 hm hi
      have e1 := hw (av ^^^ 2 ^ i) (flip_lt hav i64) (by
        rw [holds_mask, beq_iff_eq, mask_bits]
        intro j
        rw [holds_mask, beq_iff_eq, mask_bits] at in0
        rw [Nat.testBit_xor, Nat.testBit_two_pow]
        by_cases hj : i = j
        · subst hj; rw [hc, Bool.and_false, ← in0 i, hc, Bool.and_false]
        · have := in0 j
          rw [decide_eq_false hj, Bool.xor_false]; exact this)
      rw [holds_mask, beq_iff_eq] at e1
      have b0 := mask_bits.1 e0 i
      have b1 := mask_bits.1 e1 i
      rw [hi, Bool.and_true] at b0 b1
      rw [Nat.testBit_xor, Nat.testBit_two_pow, ← b0] at b1
      simp at b1
  · rintro ⟨e1, e2⟩ x hx h1
    rw [holds_mask, beq_iff_eq] at h1
    rw [holds_mask, beq_iff_eq, ← e2, ← h1, Nat.and_assoc, e1]

theorem within_range {a : K} {l h : Nat} (ha : Normal a) : Within a ⟨2, l, h⟩ ↔ (l ≤ lowK a ∧ highK a ≤ h) := by
  obtain ⟨h1, h2, h3, h4, h5⟩ := bounds_of ha
  constructor
  · intro hw
    have e1 := hw _ h1 h3
    have e2 := hw _ h2 h4
    rw [holds_range] at e1 e2
    simp at e1 e2
    exact ⟨e1.1, e2.2⟩
  · rintro ⟨e1, e2⟩ v hv h6
    have := h5 v hv h6
    rw [holds_range]
    simp; omega

theorem withinI_iff {a b : K} (ha : Normal a) (hb : Normal b) : withinI a b = true ↔ Within a b := by
  rcases hb with rfl | ⟨m, v, rfl, h0, hm, h⟩ | ⟨l, h, rfl, hlh, hh, h2⟩
  · simp only [withinI]; simp; intro v hv h1; rfl
  · have e : withinI a ⟨1, m, v⟩ = ((agreeM a &&& m == m) && (agreeV a &&& m == v)) := rfl
    rw [e, Bool.and_eq_true, beq_iff_eq, beq_iff_eq]
    rcases ha with rfl | ⟨am, av, rfl, h0', ham, h'⟩ | ⟨l, h', rfl, hlh, hh, h2⟩
    · have e1 : Within ⟨0, 0, 0⟩ ⟨1, m, v⟩ ↔ Within ⟨1, 0, 0⟩ ⟨1, m, v⟩ := by
        unfold Within
        constructor
        · intro hw x hx _; exact hw x hx rfl
        · intro hw x hx _; exact hw x hx (by rw [holds_mask, Nat.and_zero]; rfl)
      rw [e1, mask_mask (by omega) hm rfl]; rfl
    · rw [mask_mask ham hm h']; rfl
    · rw [range_mask hlh hh hm]; rfl
  · have e : withinI a ⟨2, l, h⟩ = (decide (l ≤ lowK a) && decide (highK a ≤ h)) := rfl
    rw [e, within_range ha]; simp

/-- a mask whose set is all between its bounds -/
theorem mask_unbroken {a b : Nat} (ha : a < 18446744073709551616) (h : a ||| b = a) (hw : Within ⟨2, b, b ||| inv a⟩ ⟨1, a, b⟩) : isLow (inv a) = true := by
  have hb : b < 18446744073709551616 := by have := @Nat.right_le_or a b; omega
  have hle : b ≤ b ||| inv a := Nat.left_le_or
  have hx : b ^^^ (b ||| inv a) = inv a := by
    apply Nat.eq_of_testBit_eq
    intro i
    rw [Nat.testBit_xor, Nat.testBit_or]
    have := (and_zero_iff _ _).1 (mask_free ha h) i
    revert this
    cases b.testBit i <;> cases (inv a).testBit i <;> simp
  have hw2 := (range_mask hle (or_lt hb (inv_lt a)) ha).1 hw
  rw [hx] at hw2
  have hn := lenN_le (inv_lt a)
  refine (isLow_iff (inv_lt a)).2 ⟨lenN (inv a), hn, ?_⟩
  apply Nat.eq_of_testBit_eq
  intro i
  rw [bit_low]
  by_cases hi : i < lenN (inv a)
  · rw [decide_eq_true hi, bit_inv ha]
    cases hc : a.testBit i with
    | false => simp; omega
    | true =>
      exfalso
      have := (and_eq_iff _ _).1 hw2.1 i hc
      rw [bit_inv (by have := low_le hn; omega), bit_low] at this
      simp [hi] at this
  · rw [decide_eq_false hi]
    exact Nat.testBit_lt_two_pow (Nat.lt_of_lt_of_le (lenN_lt _) (Nat.pow_le_pow_right (by omega) (by omega)))

/-- equal sets, equal normal conditions -/
theorem normal_uniq {a b : K} (ha : Normal a) (hb : Normal b) (h1 : Within a b) (h2 : Within b a) : a = b := by
  have all_mask : ∀ {m v : Nat}, m ≠ 0 → m < 18446744073709551616 → m ||| v = m → Within ⟨0, 0, 0⟩ ⟨1, m, v⟩ → False := by
    intro m v h0 hm h hw
    have := (withinI_iff (.inl rfl) (.inr (.inl ⟨m, v, rfl, h0, hm, h⟩))).2 hw
    have e : withinI ⟨0, 0, 0⟩ ⟨1, m, v⟩ = ((0 &&& m == m) && (0 &&& m == v)) := rfl
    rw [e, Bool.and_eq_true, beq_iff_eq, Nat.zero_and] at this
    exact h0 this.1.symm
  have all_range : ∀ {l h : Nat}, h < 18446744073709551616 → (∀ k, k ≤ 64 → ¬ (h - l = low k ∧ l &&& low k = 0)) → Within ⟨0, 0, 0⟩ ⟨2, l, h⟩ → False := by
    intro l h hh h2 hw
    have := (within_range (a := ⟨0, 0, 0⟩) (.inl rfl)).1 hw
    simp only [lowK, highK] at this
    simp at this
    refine h2 64 (by omega) ⟨by rw [low_64]; omega, by rw [this.1, Nat.zero_and]⟩
  have mask_range : ∀ {m v l h : Nat}, m ≠ 0 → m < 18446744073709551616 → m ||| v = m → l ≤ h → h < 18446744073709551616 → (∀ k, k ≤ 64 → ¬ (h - l = low k ∧ l &&& low k = 0)) → Within ⟨1, m, v⟩ ⟨2, l, h⟩ → Within ⟨2, l, h⟩ ⟨1, m, v⟩ → False := by
    intro m v l h h0 hm hv hlh hh h2 hw1 hw2
    obtain ⟨i1, i2, i3⟩ := bounds_mask hm hv
    have hvl : v < 18446744073709551616 := by have := @Nat.right_le_or m v; omega
    have e1 := hw1 _ hvl i1
    have e2 := hw1 _ (or_lt hvl (inv_lt m)) i2
    have e3 := i3 l (by omega) (hw2 l (by omega) (by rw [holds_range]; simp [hlh]))
    have e4 := i3 h hh (hw2 h hh (by rw [holds_range]; simp [hlh]))
    rw [holds_range] at e1 e2
    simp at e1 e2
    have el : l = v := by omega
    have eh : h = v ||| inv m := by omega
    subst el eh
    have hlow := mask_unbroken hm hv hw2
    obtain ⟨k, hk, ek⟩ := (isLow_iff (inv_lt m)).1 hlow
    have := mask_block hm hv hlow
    have hf := mask_free hm hv
    exact h2 k hk ⟨by rw [← this.1, ← ek]; omega, by rw [← ek]; exact hf⟩
  rcases ha with rfl | ⟨m, v, rfl, h0, hm, hv⟩ | ⟨l, h, rfl, hlh, hh, hn⟩
  · rcases hb with rfl | ⟨m', v', rfl, h0', hm', hv'⟩ | ⟨l', h', rfl, hlh', hh', hn'⟩
    · rfl
    · exact (all_mask h0' hm' hv' h1).elim
    · exact (all_range hh' hn' h1).elim
  · rcases hb with rfl | ⟨m', v', rfl, h0', hm', hv'⟩ | ⟨l', h', rfl, hlh', hh', hn'⟩
    · exact (all_mask h0 hm hv h2).elim
    · have e1 := (mask_mask hm hm' hv).1 h1
      have e2 := (mask_mask hm' hm hv').1 h2
      have em : m = m' := by rw [← e2.1, Nat.and_comm]; exact e1.1
      subst em
      have i1 := (bounds_mask hm hv).1
      rw [holds_mask, beq_iff_eq] at i1
      rw [show v = v' from i1.symm.trans e1.2]
    · exact (mask_range h0 hm hv hlh' hh' hn' h1 h2).elim
  · rcases hb with rfl | ⟨m', v', rfl, h0', hm', hv'⟩ | ⟨l', h', rfl, hlh', hh', hn'⟩
    · exact (all_range hh hn h2).elim
    · exact (mask_range h0' hm' hv' hlh hh hn h2 h1).elim
    · have e1 := (within_range (.inr (.inr ⟨l, h, rfl, hlh, hh, hn⟩))).1 h1
      have e2 := (within_range (.inr (.inr ⟨l', h', rfl, hlh', hh', hn'⟩))).1 h2
      have g1 : l' ≤ l ∧ h ≤ h' := e1
      have g2 : l ≤ l' ∧ h' ≤ h := e2
      rw [show l = l' by omega, show h = h' by omega]

/-! the model's way -/

def blockK (c : K) : Option (Nat × Nat) := if c.kind = 0 then some (0, 18446744073709551615) else if c.kind = 2 then some (c.a, c.b) else if isLow (inv c.a) then some (c.b, c.b + inv c.a) else none

theorem block_holds {c : K} {lo hi v : Nat} (ho : c.ok) (hv : validK c = true) (h : blockK c = some (lo, hi)) (hb : v < 18446744073709551616) : holdsK c v = true ↔ (lo ≤ v ∧ v ≤ hi) := by
  rcases K.valid_cases hv with rfl | ⟨a, b, rfl, h1⟩ | ⟨a, b, rfl, h1⟩
  · simp [blockK] at h; obtain ⟨rfl, rfl⟩ := h
    simp [holds_any]; omega
  · have h2 : (if isLow (inv a) then some (b, b + inv a) else none) = some (lo, hi) := h
    by_cases h3 : isLow (inv a) = true
    · rw [if_pos h3] at h2
      simp at h2; obtain ⟨rfl, rfl⟩ := h2
      obtain ⟨e1, e2, e3⟩ := mask_block ho.2.1 h1 h3
      rw [← newMask_holds h1, ← e3, newRange_holds (by omega) e2 hb, holds_range]
      simp
    · rw [if_neg h3] at h2; exact absurd h2 (by simp)
  · simp [blockK] at h; obtain ⟨rfl, rfl⟩ := h
    rw [holds_range]; simp
theorem block_lt {c : K} {lo hi : Nat} (ho : c.ok) (hv : validK c = true) (h : blockK c = some (lo, hi)) : lo ≤ hi ∧ hi < 18446744073709551616 := by
  rcases K.valid_cases hv with rfl | ⟨a, b, rfl, h1⟩ | ⟨a, b, rfl, h1⟩
  · simp [blockK] at h; omega
  · have h2 : (if isLow (inv a) then some (b, b + inv a) else none) = some (lo, hi) := h
    by_cases h3 : isLow (inv a) = true
    · rw [if_pos h3] at h2
      simp at h2; obtain ⟨rfl, rfl⟩ := h2
      obtain ⟨e1, e2, e3⟩ := mask_block ho.2.1 h1 h3
      exact ⟨by omega, e2⟩
    · rw [if_neg h3] at h2; exact absurd h2 (by simp)
  · simp [blockK] at h; obtain ⟨rfl, rfl⟩ := h
    exact ⟨h1, ho.2.2⟩

/-- the least number from one on that is not in the set -/
def OutK (c : K) (f v : Nat) (s : Bool) : Prop :=
  if s then f ≤ v ∧ v < 18446744073709551616 ∧ holdsK c v = false ∧ ∀ x, f ≤ x → x < v → holdsK c x = true
  else ∀ x, f ≤ x → x < 18446744073709551616 → holdsK c x = true

theorem out_within {c d : K} {lo hi v : Nat} {s : Bool} (ho : c.ok) (hv : validK c = true) (h : blockK c = some (lo, hi)) (h1 : OutK d lo v s) : ((!s || decide (hi < v)) = true ↔ Within c d) := by
  have hl := block_lt ho hv h
  have hb := fun {x} (hx : x < 18446744073709551616) => block_holds ho hv h hx
  cases s with
  | false =>
    have h2 : ∀ x, lo ≤ x → x < 18446744073709551616 → holdsK d x = true := h1
    simp
    intro x hx h3
    exact h2 x ((hb hx).1 h3).1 hx
  | true =>
    obtain ⟨h2, h3, h4, h5⟩ : lo ≤ v ∧ v < 18446744073709551616 ∧ holdsK d v = false ∧ ∀ x, lo ≤ x → x < v → holdsK d x = true := h1
    simp
    constructor
    · intro h6 x hx h7
      have := (hb hx).1 h7
      exact h5 x this.1 (by omega)
    · intro hw
      rcases Nat.lt_or_ge hi v with h6 | h6
      · exact h6
      · have := hw v h3 ((hb h3).2 ⟨h2, h6⟩)
        rw [h4] at this; exact absurd this (by decide)

theorem out_range {l h f : Nat} (hf : f < 18446744073709551616) (hh : h < 18446744073709551616) (h1 : holdsK ⟨2, l, h⟩ f = true) : OutK ⟨2, l, h⟩ f (if h = 18446744073709551615 then 0 else h + 1) (decide (h ≠ 18446744073709551615)) := by
  rw [holds_range] at h1
  simp at h1
  by_cases e : h = 18446744073709551615
  · rw [if_pos e]
    simp only [OutK, e]
    simp
    intro x hx hx2
    rw [holds_range]; simp; omega
  · rw [if_neg e, decide_eq_true (show h ≠ 18446744073709551615 from e)]
    refine ⟨by omega, by omega, ?_, fun x hx hx2 => ?_⟩
    · rw [holds_range]; simp
    · rw [holds_range]; simp; omega

theorem out_mask {a b f k : Nat} (hf : f < 18446744073709551616) (ha : a < 18446744073709551616) (hk : k < 64) (h1 : holdsK ⟨1, a, b⟩ f = true) (h2 : a.testBit k = true) (h3 : ∀ j, j < k → a.testBit j = false) :
    OutK ⟨1, a, b⟩ f (if f ||| low k = 18446744073709551615 then 0 else (f ||| low k) + 1) (decide (f ||| low k ≠ 18446744073709551615)) := by
  have h1' := h1
  rw [holds_mask, beq_iff_eq] at h1
  have hlk := low_le (show k ≤ 64 by omega)
  have hfl : f ||| low k < 18446744073709551616 := or_lt hf (by omega)
  have hq : f ||| low k = 2 ^ k * (f / 2 ^ k) + low k := by
    apply Nat.eq_of_testBit_eq
    intro i
    rw [Nat.testBit_or, Nat.testBit_two_pow_mul_add _ (low_lt k), bit_low, Nat.testBit_div_two_pow]
    by_cases h : i < k
    · simp [h]
    · simp [h, Nat.sub_add_cancel (show k ≤ i by omega)]
  have inside : ∀ x, f ≤ x → x ≤ f ||| low k → holdsK ⟨1, a, b⟩ x = true := by
    intro x hx1 hx2
    have hxor : f ^^^ (f ||| low k) < 2 ^ k := by
      apply Nat.lt_pow_two_of_testBit
      intro i hi
      rw [Nat.testBit_xor, Nat.testBit_or, bit_low]
      simp [show ¬ i < k by omega]
    rw [holds_mask, beq_iff_eq, ← h1]
    apply Nat.eq_of_testBit_eq
    intro i
    rw [Nat.testBit_and, Nat.testBit_and]
    by_cases hi : i < k
    · rw [h3 i hi, Bool.and_false, Bool.and_false]
    · rw [range_top hxor hx1 hx2 (by omega)]
  by_cases e : f ||| low k = 18446744073709551615
  · rw [if_pos e]
    simp only [OutK, e]
    simp
    intro x hx hx2
    exact inside x hx (by omega)
  · rw [if_neg e]
    have hle : f ≤ f ||| low k := Nat.left_le_or
    rw [decide_eq_true (show f ||| low k ≠ 18446744073709551615 from e)]
    refine ⟨by omega, by omega, ?_, fun x hx hx2 => inside x hx (by omega)⟩
    rw [holds_mask]
    cases hc : ((f ||| low k) + 1 &&& a == b) with
    | false => rfl
    | true =>
      exfalso
      rw [beq_iff_eq] at hc
      have b1 := mask_bits.1 hc k
      have b2 := mask_bits.1 h1 k
      rw [h2, Bool.and_true] at b1 b2
      have e2 : (f ||| low k) + 1 = 2 ^ k * (f / 2 ^ k + 1) + 0 := by
        have := low_succ k
        rw [hq, Nat.mul_add, Nat.mul_one]; omega
      rw [e2, Nat.testBit_two_pow_mul_add _ (Nat.two_pow_pos k), if_neg (by omega), Nat.sub_self, ← b2] at b1
      have e3 : f.testBit k = (f / 2 ^ k).testBit 0 := by rw [Nat.testBit_div_two_pow, Nat.zero_add]
      rw [e3, Nat.testBit_zero, Nat.testBit_zero] at b1
      simp at b1
      omega
theorem out_free {b f : Nat} (h1 : holdsK ⟨1, 0, b⟩ f = true) : OutK ⟨1, 0, b⟩ f 0 false := by
  intro x hx hx2
  rw [holds_mask, Nat.and_zero] at h1 ⊢; exact h1
theorem out_any {f : Nat} : OutK ⟨0, 0, 0⟩ f 0 false := fun x _ _ => rfl
theorem out_first {c : K} {f : Nat} (hf : f < 18446744073709551616) (h : holdsK c f = false) : OutK c f f true := ⟨Nat.le_refl _, hf, h, fun x h1 h2 => by omega⟩
theorem zero_of_bits {a : Nat} (ha : a < 18446744073709551616) (h : ∀ j, j < 64 → a.testBit j = false) : a = 0 := by
  apply Nat.eq_of_testBit_eq
  intro i
  rw [Nat.zero_testBit]
  rcases Nat.lt_or_ge i 64 with h1 | h1
  · exact h i h1
  · exact bit_hi ha h1

/-- mask within mask, bit by bit -/
theorem mask_mask_bits {am av m v : Nat} (ha : am < 18446744073709551616) (hm : m < 18446744073709551616) (h : am ||| av = am) (h' : m ||| v = m) :
    Within ⟨1, am, av⟩ ⟨1, m, v⟩ ↔ ∀ k, k < 64 → m.testBit k = true → am.testBit k = true ∧ av.testBit k = v.testBit k := by
  rw [mask_mask ha hm h]
  constructor
  · rintro ⟨e1, e2⟩ k hk hb
    refine ⟨(and_eq_iff _ _).1 e1 k hb, ?_⟩
    have := mask_bits.1 e2 k
    rw [hb, Bool.and_true] at this; exact this
  · intro e
    refine ⟨(and_eq_iff _ _).2 fun i hi => (e i (bit_lt64 hm hi) hi).1, mask_bits.2 fun i => ?_⟩
    cases hc : m.testBit i with
    | true => rw [Bool.and_true]; exact (e i (bit_lt64 hm hc) hc).2
    | false =>
      rw [Bool.and_false]
      cases hd : v.testBit i with
      | false => rfl
      | true => rw [valid_mask h' i hd] at hc; exact absurd hc (by decide)
theorem mask_any {am av : Nat} : Within ⟨1, am, av⟩ ⟨0, 0, 0⟩ := fun v _ _ => rfl
theorem mask_in_range {am av l h : Nat} (ha : am < 18446744073709551616) (hv : am ||| av = am) : Within ⟨1, am, av⟩ ⟨2, l, h⟩ ↔ (l ≤ av ∧ av ||| inv am ≤ h) := by
  obtain ⟨h3, h4, h5⟩ := bounds_mask ha hv
  have hav : av < 18446744073709551616 := by have := @Nat.right_le_or am av; omega
  constructor
  · intro hw
    have e1 := hw _ hav h3
    have e2 := hw _ (or_lt hav (inv_lt am)) h4
    rw [holds_range] at e1 e2
    simp at e1 e2
    exact ⟨e1.1, e2.2⟩
  · rintro ⟨e1, e2⟩ v hv h6
    have := h5 v hv h6
    rw [holds_range]
    simp; omega
theorem and_bit (x k : Nat) : (x &&& 2 ^ k = 0) ↔ x.testBit k = false := by
  rw [and_zero_iff]
  constructor
  · intro h
    have := h k
    rw [Nat.testBit_two_pow_self] at this
    simpa using this
  · rintro h i ⟨h1, h2⟩
    rw [Nat.testBit_two_pow] at h2
    have : k = i := by simpa using h2
    subst this
    rw [h] at h1; exact absurd h1 (by decide)
theorem and_bit_eq (x y k : Nat) : (x &&& 2 ^ k = y &&& 2 ^ k) ↔ x.testBit k = y.testBit k := by
  constructor
  · intro h
    have e : (x &&& 2 ^ k).testBit k = (y &&& 2 ^ k).testBit k := by rw [h]
    rw [Nat.testBit_and, Nat.testBit_and, Nat.testBit_two_pow_self, Bool.and_true, Bool.and_true] at e
    exact e
  · intro h
    apply Nat.eq_of_testBit_eq
    intro i
    rw [Nat.testBit_and, Nat.testBit_and, Nat.testBit_two_pow]
    by_cases hi : k = i
    · subst hi; rw [h]
    · rw [decide_eq_false hi, Bool.and_false, Bool.and_false]
end Go.Proofs.YtoamapdfcdefjaaGreat
namespace Go.Proofs.YtoamapdfcdefjaaGreat
set_option linter.unusedVariables false

/-- an entry: its two numbers and its rules -/
structure E where
  arch : Int
  nr : Int
  rules : List (List K)

def E.zero : E := ⟨0, 0, []⟩
def okR (r : List K) : Prop := ∀ c ∈ r, c.ok
def okRs (l : List (List K)) : Prop := ∀ r ∈ l, okR r
def E.ok (e : E) : Prop := (0 ≤ e.arch ∧ e.arch ≤ 4294967295) ∧ (0 ≤ e.nr ∧ e.nr ≤ 4294967295) ∧ okRs e.rules
def okP (p : List E) : Prop := ∀ e ∈ p, e.ok
theorem E.zero_ok : E.zero.ok := ⟨⟨by decide, by decide⟩, ⟨by decide, by decide⟩, fun r h => by simp [E.zero] at h⟩

theorem okR_at {r : List K} (h : okR r) (i : Nat) : (r.getD i K.zero).ok := by
  by_cases hi : i < r.length
  · rw [List.getD_eq_getElem?_getD, List.getElem?_eq_getElem hi]; exact h _ (List.getElem_mem hi)
  · rw [List.getD_eq_getElem?_getD, List.getElem?_eq_none (by omega)]; exact K.zero_ok
theorem okRs_at {l : List (List K)} (h : okRs l) (i : Nat) : okR (l.getD i []) := by
  by_cases hi : i < l.length
  · rw [List.getD_eq_getElem?_getD, List.getElem?_eq_getElem hi]; exact h _ (List.getElem_mem hi)
  · rw [List.getD_eq_getElem?_getD, List.getElem?_eq_none (by omega)]; intro c hc; simp at hc
theorem okP_at {p : List E} (h : okP p) (i : Nat) : (p.getD i E.zero).ok := by
  by_cases hi : i < p.length
  · rw [List.getD_eq_getElem?_getD, List.getElem?_eq_getElem hi]; exact h _ (List.getElem_mem hi)
  · rw [List.getD_eq_getElem?_getD, List.getElem?_eq_none (by omega)]; exact E.zero_ok

def validR (r : List K) : Bool := r.length == 6 && r.all validK
def validE (e : E) : Bool := decide (1 ≤ e.rules.length) && decide (e.rules.length ≤ 200) && e.rules.all validR
def befE (a b : E) : Bool := decide (a.arch < b.arch) || (a.arch == b.arch && decide (a.nr < b.nr))
def stepOk (p : List E) (i : Nat) : Bool := (i == 0 || befE (p.getD (i - 1) E.zero) (p.getD i E.zero)) && validE (p.getD i E.zero)
def totalR : List E → Nat
  | [] => 0
  | e :: p => e.rules.length + totalR p
def validP (p : List E) : Bool := (List.range p.length).all (stepOk p) && decide (totalR p ≤ 1000)

theorem all_getD {α : Type} (d : α) (f : α → Bool) (l : List α) : l.all f = true ↔ ∀ i, i < l.length → f (l.getD i d) = true := by
  rw [List.all_eq_true]
  constructor
  · intro h i hi
    rw [List.getD_eq_getElem?_getD, List.getElem?_eq_getElem hi]; exact h _ (List.getElem_mem hi)
  · intro h x hx
    obtain ⟨i, hi, rfl⟩ := List.getElem_of_mem hx
    have := h i hi
    rw [List.getD_eq_getElem?_getD, List.getElem?_eq_getElem hi] at this; exact this
theorem all_no {α : Type} {d : α} {f : α → Bool} {l : List α} {i : Nat} (hi : i < l.length) (h : f (l.getD i d) = false) : l.all f = false := by
  cases hc : l.all f with
  | false => rfl
  | true => rw [(all_getD d f l).1 hc i hi] at h; exact absurd h (by decide)
theorem any_getD {α : Type} (d : α) (f : α → Bool) (l : List α) : l.any f = true ↔ ∃ i, i < l.length ∧ f (l.getD i d) = true := by
  rw [List.any_eq_true]
  constructor
  · rintro ⟨x, hx, h⟩
    obtain ⟨i, hi, rfl⟩ := List.getElem_of_mem hx
    exact ⟨i, hi, by rw [List.getD_eq_getElem?_getD, List.getElem?_eq_getElem hi]; exact h⟩
  · rintro ⟨i, hi, h⟩
    rw [List.getD_eq_getElem?_getD, List.getElem?_eq_getElem hi] at h
    exact ⟨_, List.getElem_mem hi, h⟩
theorem any_no {α : Type} {d : α} {f : α → Bool} {l : List α} (h : ∀ i, i < l.length → f (l.getD i d) = false) : l.any f = false := by
  cases hc : l.any f with
  | false => rfl
  | true =>
    obtain ⟨i, hi, h1⟩ := (any_getD d f l).1 hc
    rw [h i hi] at h1; exact absurd h1 (by decide)

theorem validP_no {p : List E} {i : Nat} (hi : i < p.length) (h : stepOk p i = false) : validP p = false := by
  have : (List.range p.length).all (stepOk p) = false := by
    cases hc : (List.range p.length).all (stepOk p) with
    | false => rfl
    | true =>
      rw [List.all_eq_true] at hc
      rw [hc i (List.mem_range.2 hi)] at h; exact absurd h (by decide)
  rw [validP, this, Bool.false_and]
theorem validP_yes {p : List E} (h : ∀ i, i < p.length → stepOk p i = true) : validP p = decide (totalR p ≤ 1000) := by
  have : (List.range p.length).all (stepOk p) = true := by
    rw [List.all_eq_true]; intro i hi; exact h i (List.mem_range.1 hi)
  rw [validP, this, Bool.true_and]
theorem validP_step {p : List E} (h : validP p = true) {i : Nat} (hi : i < p.length) : stepOk p i = true := by
  rw [validP, Bool.and_eq_true, List.all_eq_true] at h
  exact h.1 i (List.mem_range.2 hi)
theorem totalR_append (p q : List E) : totalR (p ++ q) = totalR p + totalR q := by
  induction p with
  | nil => simp [totalR]
  | cons e p ih => simp only [List.cons_append, totalR, ih]; omega
theorem totalR_take {p : List E} {k : Nat} (h : k < p.length) : totalR (p.take (k + 1)) = totalR (p.take k) + (p.getD k E.zero).rules.length := by
  have e : p.take (k + 1) = p.take k ++ [p.getD k E.zero] := by
    rw [List.take_add_one, List.getElem?_eq_getElem h, List.getD_eq_getElem?_getD, List.getElem?_eq_getElem h]; rfl
  rw [e, totalR_append]; simp [totalR]

/-- entries of a valid policy come in order -/
theorem befE_trans {a b c : E} (h : befE a b = true) (h' : befE b c = true) : befE a c = true := by
  simp only [befE, Bool.or_eq_true, Bool.and_eq_true, decide_eq_true_eq, beq_iff_eq] at *
  omega
theorem befE_of_valid {p : List E} (h : validP p = true) : ∀ {i j : Nat}, i < j → j < p.length → befE (p.getD i E.zero) (p.getD j E.zero) = true := by
  intro i j hij hj
  obtain ⟨m, rfl⟩ : ∃ m, j = i + 1 + m := ⟨j - (i + 1), by omega⟩
  clear hij
  have step : ∀ k, k + 1 < p.length → befE (p.getD k E.zero) (p.getD (k + 1) E.zero) = true := fun k hk => by
    have := validP_step h hk
    rw [stepOk, Bool.and_eq_true, Bool.or_eq_true] at this
    rcases this.1 with h1 | h1
    · simp at h1
    · exact h1
  induction m with
  | zero => exact step i hj
  | succ m ih =>
    exact befE_trans (ih (by omega)) (step (i + 1 + m) hj)

def ruleHolds (r : List K) (args : List Int) : Bool := (List.range 6).all fun i => holdsK (r.getD i K.zero) (args.getD i 0).toNat
def meets (e : E) (c : C) : Bool := e.arch == c.arch && e.nr == c.nr
def allowsP (p : List E) (c : C) : Bool := validP p && (c.args.length == 6) && p.any fun e => meets e c && e.rules.any fun r => ruleHolds r c.args

theorem meets_once {p : List E} {c : C} (h : validP p = true) {i j : Nat} (hi : i < p.length) (hj : j < p.length) (m1 : meets (p.getD i E.zero) c = true) (m2 : meets (p.getD j E.zero) c = true) : i = j := by
  have key : ∀ {i j : Nat}, i < j → j < p.length → meets (p.getD i E.zero) c = true → meets (p.getD j E.zero) c = true → False := by
    intro i j hij hj m1 m2
    have hb := befE_of_valid h hij hj
    simp only [befE, meets, Bool.or_eq_true, Bool.and_eq_true, decide_eq_true_eq, beq_iff_eq] at *
    omega
  rcases Nat.lt_trichotomy i j with h1 | h1 | h1
  · exact (key h1 hj m1 m2).elim
  · exact h1
  · exact (key h1 hi m2 m1).elim
theorem allows_first {p : List E} {c : C} (h : validP p = true) {i : Nat} (hi : i < p.length) (hm : meets (p.getD i E.zero) c = true) :
    (p.any fun e => meets e c && e.rules.any fun r => ruleHolds r c.args) = (p.getD i E.zero).rules.any fun r => ruleHolds r c.args := by
  rw [Bool.eq_iff_iff, any_getD E.zero]
  constructor
  · rintro ⟨j, hj, h1⟩
    rw [Bool.and_eq_true] at h1
    have := meets_once h hi hj hm h1.1
    subst this
    exact h1.2
  · intro h1
    exact ⟨i, hi, by rw [hm, Bool.true_and]; exact h1⟩
theorem ruleHolds_no {r : List K} {args : List Int} {i : Nat} (hi : i < 6) (h : holdsK (r.getD i K.zero) (args.getD i 0).toNat = false) : ruleHolds r args = false := by
  cases hc : ruleHolds r args with
  | false => rfl
  | true =>
    rw [ruleHolds, List.all_eq_true] at hc
    rw [hc i (List.mem_range.2 hi)] at h; exact absurd h (by decide)
theorem ruleHolds_yes {r : List K} {args : List Int} (h : ∀ i, i < 6 → holdsK (r.getD i K.zero) (args.getD i 0).toNat = true) : ruleHolds r args = true := by
  rw [ruleHolds, List.all_eq_true]; intro i hi; exact h i (List.mem_range.1 hi)
end Go.Proofs.YtoamapdfcdefjaaGreat
