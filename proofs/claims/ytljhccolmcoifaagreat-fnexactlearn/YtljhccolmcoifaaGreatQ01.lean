/-
  Math, MathB, MathD, MathS, MathN
-/
import Derived.Below
import Derived.Laws.BitsAllLaws
import Derived.Laws.Closers25b
namespace Go.Proofs.YtljhccolmcoifaaGreat

/-- one instruction: its four numbers -/
structure I where
  c : Int
  jt : Int
  jf : Int
  k : Int

def I.ok (x : I) : Prop := 0 ≤ x.c ∧ x.c ≤ 65535 ∧ 0 ≤ x.jt ∧ x.jt ≤ 255 ∧ 0 ≤ x.jf ∧ x.jf ≤ 255 ∧ 0 ≤ x.k ∧ x.k ≤ 4294967295
def I.zero : I := ⟨0, 0, 0, 0⟩
theorem I.zero_ok : I.zero.ok := by unfold I.ok I.zero; decide

def codesL : List Int := [0, 1, 32, 96, 97, 2, 3, 4, 12, 20, 28, 36, 44, 52, 60, 68, 76, 84, 92, 164, 172, 100, 108, 116, 124, 132, 7, 135, 5, 21, 29, 37, 45, 53, 61, 69, 77, 6, 22]
def knownB (c : Int) : Bool := codesL.contains c
def memB (c : Int) : Bool := c == 96 || c == 97 || c == 2 || c == 3
def ariB (c : Int) : Bool := c == 4 || c == 20 || c == 36 || c == 52 || c == 68 || c == 84 || c == 164 || c == 100 || c == 116 || c == 12 || c == 28 || c == 44 || c == 60 || c == 76 || c == 92 || c == 172 || c == 108 || c == 124 || c == 132
def tstB (c : Int) : Bool := c == 21 || c == 37 || c == 53 || c == 69 || c == 29 || c == 45 || c == 61 || c == 77
def isKnownB (c : Int) : Bool := c == 0 || c == 1 || c == 32 || c == 7 || c == 135 || c == 5 || c == 6 || c == 22 || memB c || ariB c || tstB c

theorem isKnownB_eq (c : Int) : isKnownB c = knownB c := by
  simp only [isKnownB, memB, ariB, tstB, knownB, codesL, List.contains_cons, List.contains_nil, Bool.or_false]
  ac_rfl

theorem tst_known (c : Int) (h : tstB c = true) : knownB c = true := by
  rw [← isKnownB_eq]; simp [isKnownB, h]

theorem tst_of_known : ∀ c ∈ codesL, tstB c = (c % 8 == 5 && c != 5) := by decide

theorem tstB_eq (c : Int) : (knownB c && c % 8 == 5 && c != 5) = tstB c := by
  cases h : knownB c with
  | false =>
    cases h2 : tstB c with
    | false => simp
    | true => rw [tst_known c h2] at h; cases h
  | true =>
    have hm : c ∈ codesL := by simpa [knownB] using h
    rw [tst_of_known c hm]; simp

/-- the fault of the instruction (c, jt, jf, k) at index i of n, as the document's model has it -/
def faultS (n i c jt jf k : Int) : Int :=
  if knownB c = false then 2
  else if c = 32 ∧ (k % 4 ≠ 0 ∨ 60 < k) then 3
  else if memB c = true ∧ 16 ≤ k then 4
  else if c = 5 ∧ n ≤ i + 1 + k then 5
  else if tstB c = true ∧ (n ≤ i + 1 + jt ∨ n ≤ i + 1 + jf) then 5
  else if c = 52 ∧ k = 0 then 6
  else if (c = 100 ∨ c = 116) ∧ 32 ≤ k then 6
  else if i = n - 1 ∧ c ≠ 6 ∧ c ≠ 22 then 7
  else 0

def jumpB (c jt jf k after : Int) : Bool := if tstB c then (decide (after ≤ jt) || decide (after ≤ jf)) else (c == 5 && decide (after ≤ k))
def badB (c k : Int) : Bool := if c = 52 then k == 0 else if c = 100 ∨ c = 116 then decide (32 ≤ k) else false

/-- the fault as the program reckons it, from the number of instructions that follow -/
def faultI (c jt jf k after : Int) : Int :=
  if isKnownB c = false then 2
  else if c = 32 ∧ (k % 4 ≠ 0 ∨ 60 < k) then 3
  else if memB c = true ∧ 16 ≤ k then 4
  else if jumpB c jt jf k after = true then 5
  else if badB c k = true then 6
  else if after = 0 ∧ c ≠ 6 ∧ c ≠ 22 then 7
  else 0

theorem faultI_eq (n i c jt jf k : Int) : faultI c jt jf k (n - 1 - i) = faultS n i c jt jf k := by
  unfold faultI faultS
  rw [isKnownB_eq]
  have h5 : tstB 5 = false := by decide
  have hj : jumpB c jt jf k (n - 1 - i) = true ↔ ((c = 5 ∧ n ≤ i + 1 + k) ∨ (tstB c = true ∧ (n ≤ i + 1 + jt ∨ n ≤ i + 1 + jf))) := by
    unfold jumpB
    by_cases ht : tstB c = true
    · have hc : c ≠ 5 := by intro e; rw [e, h5] at ht; cases ht
      simp [ht, hc]; omega
    · simp [ht]; omega
  have hb : badB c k = true ↔ ((c = 52 ∧ k = 0) ∨ ((c = 100 ∨ c = 116) ∧ 32 ≤ k)) := by
    unfold badB
    by_cases h1 : c = 52
    · subst h1; simp
    · by_cases h2 : c = 100 ∨ c = 116
      · simp [h1, h2]
      · simp [h1, h2]
  have he : (n - 1 - i = 0 ∧ c ≠ 6 ∧ c ≠ 22) ↔ (i = n - 1 ∧ c ≠ 6 ∧ c ≠ 22) := by omega
  by_cases g1 : knownB c = false
  · simp only [if_pos g1]
  simp only [if_neg g1]
  by_cases g2 : c = 32 ∧ (k % 4 ≠ 0 ∨ 60 < k)
  · simp only [if_pos g2]
  simp only [if_neg g2]
  by_cases g3 : memB c = true ∧ 16 ≤ k
  · simp only [if_pos g3]
  simp only [if_neg g3]
  by_cases g4 : c = 5 ∧ n ≤ i + 1 + k
  · rw [if_pos (hj.2 (.inl g4)), if_pos g4]
  · by_cases g5 : tstB c = true ∧ (n ≤ i + 1 + jt ∨ n ≤ i + 1 + jf)
    · rw [if_pos (hj.2 (.inr g5)), if_neg g4, if_pos g5]
    · have hn : ¬ jumpB c jt jf k (n - 1 - i) = true := fun e => (hj.1 e).elim g4 g5
      rw [if_neg hn, if_neg g4, if_neg g5]
      by_cases g6 : c = 52 ∧ k = 0
      · rw [if_pos (hb.2 (.inl g6)), if_pos g6]
      · by_cases g7 : (c = 100 ∨ c = 116) ∧ 32 ≤ k
        · rw [if_pos (hb.2 (.inr g7)), if_neg g6, if_pos g7]
        · have hn2 : ¬ badB c k = true := fun e => (hb.1 e).elim g6 g7
          rw [if_neg hn2, if_neg g6, if_neg g7]
          by_cases g8 : i = n - 1 ∧ c ≠ 6 ∧ c ≠ 22
          · rw [if_pos (he.2 g8), if_pos g8]
          · rw [if_neg (fun e => g8 (he.1 e)), if_neg g8]

theorem faultS_bd (n i c jt jf k : Int) : 0 ≤ faultS n i c jt jf k ∧ faultS n i c jt jf k ≤ 7 := by
  unfold faultS
  repeat' split
  all_goals omega

/-- the first index from i on, among the next m, whose fault is not 0 -/
def ffrom (F : Nat → Int) : Nat → Nat → Int × Int
  | 0, _ => (0, 0)
  | m + 1, i => if F i = 0 then ffrom F m (i + 1) else (F i, (i : Int))

/-- the fault at index i of the program p -/
def faultAt (p : List I) (i : Nat) : Int := faultS p.length i (p.getD i I.zero).c (p.getD i I.zero).jt (p.getD i I.zero).jf (p.getD i I.zero).k

/-- what Validate answers -/
def validL (p : List I) : Int × Int := if p.length < 1 ∨ 4096 < p.length then (1, 0) else ffrom (faultAt p) p.length 0

theorem ffrom_step0 {F : Nat → Int} {n k : Nat} (h : k < n) (h0 : F k = 0) : ffrom F (n - (k + 1)) (k + 1) = ffrom F (n - k) k := by
  have e : n - k = (n - (k + 1)) + 1 := by omega
  rw [e, ffrom, if_pos h0]
theorem ffrom_hit {F : Nat → Int} {n k : Nat} (h : k < n) (h0 : F k ≠ 0) : ffrom F (n - k) k = (F k, (k : Int)) := by
  have e : n - k = (n - (k + 1)) + 1 := by omega
  rw [e, ffrom, if_neg h0]
theorem ffrom_end {F : Nat → Int} {n : Nat} : ffrom F (n - n) n = (0, 0) := by rw [Nat.sub_self]; rfl
theorem validL_big {p : List I} (h : p.length < 1 ∨ 4096 < p.length) : validL p = (1, 0) := by unfold validL; rw [if_pos h]
theorem validL_in {p : List I} (h1 : 1 ≤ p.length) (h2 : p.length ≤ 4096) : validL p = ffrom (faultAt p) (p.length - 0) 0 := by
  unfold validL; rw [if_neg (by omega), Nat.sub_zero]
end Go.Proofs.YtljhccolmcoifaaGreat
namespace Go.Proofs.YtljhccolmcoifaaGreat

/-- the n lowest bytes of v, the lowest first -/
def littleL : Int → Nat → List Int
  | _, 0 => []
  | v, n + 1 => v % 256 :: littleL (v / 256) n

theorem littleL_len (v : Int) (n : Nat) : (littleL v n).length = n := by
  induction n generalizing v with
  | zero => rfl
  | succ n ih => simp [littleL, ih]

theorem littleL_step {L l : List Int} {r : Int} {n k : Nat} (h : L = l ++ littleL r (n - k)) (hk : k < n) : L = (l ++ [r % 256]) ++ littleL (r / 256) (n - (k + 1)) := by
  have e : n - k = (n - (k + 1)) + 1 := by omega
  rw [h, e, littleL]; simp

/-- the bytes of one instruction -/
def encI (x : I) : List Int := littleL x.c 2 ++ [x.jt] ++ [x.jf] ++ littleL x.k 4
def encL (p : List I) : List Int := p.flatMap encI

theorem encI_len (x : I) : (encI x).length = 8 := by simp [encI, littleL_len]
theorem encL_len (p : List I) : (encL p).length = 8 * p.length := by
  induction p with
  | nil => rfl
  | cons x p ih => simp only [encL, List.flatMap_cons, List.length_append, encI_len, List.length_cons] at *; omega

theorem encL_take {p : List I} {k : Nat} (h : k < p.length) : encL (p.take (k + 1)) = encL (p.take k) ++ encI (p.getD k I.zero) := by
  unfold encL
  rw [List.take_succ_eq_append_getElem h, List.flatMap_append]
  simp [List.getElem?_eq_getElem h]
theorem encI_eq {x : I} (h : x.ok) : encI x = [x.c % 256, x.c / 256, x.jt, x.jf, x.k % 256, x.k / 256 % 256, x.k / 65536 % 256, x.k / 16777216] := by
  obtain ⟨h1, h2, h3, h4, h5, h6, h7, h8⟩ := h
  simp only [encI, littleL, List.cons_append, List.nil_append]
  rw [show x.c / 256 % 256 = x.c / 256 by omega, show x.k / 256 / 256 % 256 = x.k / 65536 % 256 by omega, show x.k / 256 / 256 / 256 % 256 = x.k / 16777216 by omega]
end Go.Proofs.YtljhccolmcoifaaGreat
namespace Go.Proofs.YtljhccolmcoifaaGreat

/-- the number whose bytes are given, the lowest first -/
def numL : List Int → Int
  | [] => 0
  | x :: t => x + 256 * numL t

def isBytes (l : List Int) : Prop := ∀ x ∈ l, 0 ≤ x ∧ x ≤ 255

theorem numL_bd {l : List Int} (h : isBytes l) : 0 ≤ numL l ∧ numL l < ((256 ^ l.length : Nat) : Int) := by
  induction l with
  | nil => simp [numL]
  | cons x t ih =>
    have hx := h x (by simp)
    have ht := ih (fun y hy => h y (by simp [hy]))
    simp only [numL, List.length_cons, Nat.pow_succ]
    omega

theorem numL_bd8 {l : List Int} (h : isBytes l) (hl : l.length ≤ 8) : 0 ≤ numL l ∧ numL l ≤ 18446744073709551615 := by
  have h1 := numL_bd h
  have h2 : 256 ^ l.length ≤ 256 ^ 8 := Nat.pow_le_pow_right (by omega) hl
  have h3 : 256 ^ 8 = 18446744073709551616 := by decide
  omega

theorem numL_drop {l : List Int} {k : Nat} (h : k < l.length) : numL (l.drop k) = l.getD k 0 + 256 * numL (l.drop (k + 1)) := by
  rw [List.drop_eq_getElem_cons h, numL, List.getD_eq_getElem?_getD, List.getElem?_eq_getElem h]; rfl

theorem isBytes_drop {l : List Int} (h : isBytes l) (k : Nat) : isBytes (l.drop k) := fun x hx => h x (List.mem_of_mem_drop hx)
theorem isBytes_getD {l : List Int} (h : isBytes l) (i : Nat) : 0 ≤ l.getD i 0 ∧ l.getD i 0 ≤ 255 := by
  by_cases hi : i < l.length
  · rw [List.getD_eq_getElem?_getD, List.getElem?_eq_getElem hi]; exact h _ (List.getElem_mem hi)
  · rw [List.getD_eq_getElem?_getD, List.getElem?_eq_none (by omega)]; simp

theorem join32 (i : Nat) (a b : Int) (h1 : 0 ≤ a) (h2 : a < 2 ^ i) (h3 : 0 ≤ b) (h4 : b % 2 ^ i = 0) (h5 : a < 4294967296) (h6 : b < 4294967296) : bits .or .u32 a b = a + b := by
  rw [u32_or a b h1 h5 h3 h6, Nat.or_comm]
  have e : (b.toNat ||| a.toNat) = b.toNat + a.toNat := by
    refine nat_join i _ _ ?_ ?_
    · have : ((b.toNat % 2 ^ i : Nat) : Int) = 0 := by rw [Int.natCast_emod, Int.toNat_of_nonneg h3, Int.natCast_pow]; exact h4
      omega
    · have : ((a.toNat : Nat) : Int) < ((2 ^ i : Nat) : Int) := by rw [Int.toNat_of_nonneg h1, Int.natCast_pow]; exact h2
      omega
  rw [e]; omega
theorem join16 (i : Nat) (a b : Int) (h1 : 0 ≤ a) (h2 : a < 2 ^ i) (h3 : 0 ≤ b) (h4 : b % 2 ^ i = 0) (h5 : a < 65536) (h6 : b < 65536) : bits .or .u16 a b = a + b := by
  rw [u16_or a b h1 h5 h3 h6, Nat.or_comm]
  have e : (b.toNat ||| a.toNat) = b.toNat + a.toNat := by
    refine nat_join i _ _ ?_ ?_
    · have : ((b.toNat % 2 ^ i : Nat) : Int) = 0 := by rw [Int.natCast_emod, Int.toNat_of_nonneg h3, Int.natCast_pow]; exact h4
      omega
    · have : ((a.toNat : Nat) : Int) < ((2 ^ i : Nat) : Int) := by rw [Int.toNat_of_nonneg h1, Int.natCast_pow]; exact h2
      omega
  rw [e]; omega

theorem word_bits (x0 x1 x2 x3 : Int) (h0 : 0 ≤ x0 ∧ x0 ≤ 255) (h1 : 0 ≤ x1 ∧ x1 ≤ 255) (h2 : 0 ≤ x2 ∧ x2 ≤ 255) (h3 : 0 ≤ x3 ∧ x3 ≤ 255) :
    bits .or .u32 (bits .or .u32 (bits .or .u32 x0 (x1 * 256)) (x2 * 65536)) (x3 * 16777216) = x0 + 256 * x1 + 65536 * x2 + 16777216 * x3 := by
  rw [join32 8 x0 (x1 * 256) h0.1 (by omega) (by omega) (by omega) (by omega) (by omega)]
  rw [join32 16 _ (x2 * 65536) (by omega) (by omega) (by omega) (by omega) (by omega) (by omega)]
  rw [join32 24 _ (x3 * 16777216) (by omega) (by omega) (by omega) (by omega) (by omega) (by omega)]
  omega
theorem half_bits (x0 x1 : Int) (h0 : 0 ≤ x0 ∧ x0 ≤ 255) (h1 : 0 ≤ x1 ∧ x1 ≤ 255) : bits .or .u16 x0 (x1 * 256) = x0 + 256 * x1 := by
  rw [join16 8 x0 (x1 * 256) h0.1 (by omega) (by omega) (by omega) (by omega) (by omega)]
  omega

/-- the instruction that begins at byte 8 i -/
def decI (l : List Int) (i : Nat) : I :=
  ⟨l.getD (i * 8) 0 + 256 * l.getD (i * 8 + 1) 0, l.getD (i * 8 + 2) 0, l.getD (i * 8 + 3) 0, l.getD (i * 8 + 4) 0 + 256 * l.getD (i * 8 + 5) 0 + 65536 * l.getD (i * 8 + 6) 0 + 16777216 * l.getD (i * 8 + 7) 0⟩
def decN (l : List Int) (k : Nat) : List I := (List.range k).map (decI l)
def decBad (l : List Int) : Bool := l.length % 8 != 0 || decide (32768 < l.length)
def decL (l : List Int) : List I := if decBad l then [] else decN l (l.length / 8)
def decC (l : List Int) : Int := if decBad l then 1 else 0

theorem decN_succ (l : List Int) (k : Nat) : decN l (k + 1) = decN l k ++ [decI l k] := by simp [decN, List.range_succ]
theorem decN_len (l : List Int) (k : Nat) : (decN l k).length = k := by simp [decN]
theorem decI_ok {l : List Int} (h : isBytes l) (i : Nat) : (decI l i).ok := by
  have b := fun j => isBytes_getD h j
  have b0 := b (i * 8); have b1 := b (i * 8 + 1); have b2 := b (i * 8 + 2); have b3 := b (i * 8 + 3)
  have b4 := b (i * 8 + 4); have b5 := b (i * 8 + 5); have b6 := b (i * 8 + 6); have b7 := b (i * 8 + 7)
  unfold decI I.ok
  simp only
  omega
theorem decL_ok {l : List Int} (h : isBytes l) : ∀ x ∈ decL l, x.ok := by
  intro x hx
  unfold decL at hx
  split at hx
  · simp at hx
  · simp only [decN, List.mem_map, List.mem_range] at hx
    obtain ⟨i, _, rfl⟩ := hx
    exact decI_ok h i
end Go.Proofs.YtljhccolmcoifaaGreat
namespace Go.Proofs.YtljhccolmcoifaaGreat

/-- one bit falls out of h and decides -/
def halfI (h : Int) : Int := if h % 2 = 1 then bits .xor .u32 (h / 2) 3988292384 else h / 2
def halfN : Nat → Int → Int
  | 0, h => h
  | n + 1, h => halfN n (halfI h)
/-- the checksum on its way, h so far -/
def sumF : Int → List Int → Int
  | h, [] => h
  | h, b :: r => sumF (halfN 8 (bits .xor .u32 h b)) r
def sumL (l : List Int) : Int := bits .xor .u32 (sumF 4294967295 l) 4294967295

theorem halfI_ok {h : Int} (h0 : 0 ≤ h) (h1 : h ≤ 4294967295) : 0 ≤ halfI h ∧ halfI h ≤ 4294967295 := by
  unfold halfI
  split
  · exact ⟨bits_lo_u32 _ _ _, bits_hi_u32 _ _ _⟩
  · omega
theorem halfN_ok (n : Nat) {h : Int} (h0 : 0 ≤ h) (h1 : h ≤ 4294967295) : 0 ≤ halfN n h ∧ halfN n h ≤ 4294967295 := by
  induction n generalizing h with
  | zero => exact ⟨h0, h1⟩
  | succ n ih => exact ih (halfI_ok h0 h1).1 (halfI_ok h0 h1).2
theorem sumL_ok (l : List Int) : 0 ≤ sumL l ∧ sumL l ≤ 4294967295 := ⟨bits_lo_u32 _ _ _, bits_hi_u32 _ _ _⟩

theorem halfN_step {X h : Int} {n : Nat} (e : X = halfN (n + 1) h) : X = halfN n (halfI h) := e
theorem sumF_step {X h : Int} {l : List Int} {k : Nat} (e : X = sumF h (l.drop k)) (hk : k < l.length) : X = sumF (halfN 8 (bits .xor .u32 h (l.getD k 0))) (l.drop (k + 1)) := by
  rw [List.drop_eq_getElem_cons hk] at e
  rw [e, List.getD_eq_getElem?_getD, List.getElem?_eq_getElem hk]
  rfl

/-- the lowest bit -/
theorem and1_u32 {h : Int} (h0 : 0 ≤ h) (h1 : h ≤ 4294967295) : bits .and .u32 h 1 = h % 2 := by
  rw [u32_and h 1 h0 (by omega) (by omega) (by omega)]
  have e : h.toNat &&& (1 : Int).toNat = h.toNat % 2 := Nat.and_two_pow_sub_one_eq_mod h.toNat 1
  rw [e]; omega
/-- the other bits -/
theorem not_u32 {h : Int} (h0 : 0 ≤ h) (h1 : h ≤ 4294967295) : bits .xor .u32 h 4294967295 = 4294967295 - h := by
  rw [u32_xor h 4294967295 h0 (by omega) (by omega) (by omega)]
  have h2 : h.toNat < 2 ^ 32 := by omega
  have e : h.toNat ^^^ (4294967295 : Int).toNat = 4294967295 - h.toNat := by
    have e1 : (BitVec.ofNat 32 h.toNat ^^^ BitVec.allOnes 32).toNat = (~~~ (BitVec.ofNat 32 h.toNat)).toNat := by rw [BitVec.xor_allOnes]
    rw [BitVec.toNat_xor, BitVec.toNat_not, BitVec.toNat_ofNat, Nat.mod_eq_of_lt h2, BitVec.toNat_allOnes] at e1
    simpa using e1
  rw [e]; omega
theorem not2_u32 {h : Int} (h0 : 0 ≤ h) (h1 : h ≤ 4294967295) : bits .xor .u32 IntKind.u32.max h = 4294967295 - h := by
  have e : IntKind.u32.max = 4294967295 := by decide
  rw [e, ← not_u32 h0 h1, u32_xor h 4294967295 h0 (by omega) (by omega) (by omega), u32_xor 4294967295 h (by omega) (by omega) h0 (by omega), Nat.xor_comm]
end Go.Proofs.YtljhccolmcoifaaGreat
namespace Go.Proofs.YtljhccolmcoifaaGreat
set_option linter.unusedVariables false

/-- one call: its numbers -/
structure C where
  arch : Int
  nr : Int
  args : List Int

def isU64 (v : Int) : Prop := 0 ≤ v ∧ v ≤ 18446744073709551615
def C.ok (x : C) : Prop := 0 ≤ x.arch ∧ x.arch ≤ 4294967295 ∧ 0 ≤ x.nr ∧ x.nr ≤ 4294967295 ∧ ∀ v ∈ x.args, isU64 v
def C.zero : C := ⟨0, 0, []⟩
theorem C.zero_ok : C.zero.ok := ⟨by decide, by decide, by decide, by decide, fun v h => by simp [C.zero] at h⟩

/-- a number in digits of seven bits, the lowest first, at most n of them -/
def varF : Nat → Int → List Int
  | 0, _ => []
  | n + 1, v => if v < 128 then [v] else (v % 128 + 128) :: varF n (v / 128)
def varL (v : Int) : List Int := varF 10 v

theorem varF_lo {n : Nat} {v : Int} (h : v < 128) : varF (n + 1) v = [v] := by simp [varF, h]
theorem varF_hi {n : Nat} {v : Int} (h : ¬ v < 128) : varF (n + 1) v = (v % 128 + 128) :: varF n (v / 128) := by simp [varF, h]
theorem varF_len (n : Nat) (v : Int) : (varF n v).length ≤ n := by
  induction n generalizing v with
  | zero => simp [varF]
  | succ n ih =>
    unfold varF
    split
    · simp
    · have := ih (v / 128); simp; exact this
theorem varF_pos (n : Nat) (v : Int) : 1 ≤ (varF (n + 1) v).length := by
  unfold varF
  split <;> simp
theorem varF_ok (n : Nat) {v : Int} (h : 0 ≤ v) : isBytes (varF n v) := by
  induction n generalizing v with
  | zero => intro x hx; simp [varF] at hx
  | succ n ih =>
    intro x hx
    unfold varF at hx
    split at hx
    · simp at hx; omega
    · simp only [List.mem_cons] at hx
      rcases hx with rfl | hx
      · omega
      · exact ih (by omega) x hx
/-- enough digits are enough -/
theorem varF_fit (n m : Nat) {v : Int} (h0 : 0 ≤ v) (h : v < ((128 ^ (n + 1) : Nat) : Int)) (h1 : n + 1 ≤ m) : varF m v = varF (n + 1) v := by
  induction n generalizing m v with
  | zero =>
    obtain ⟨m, rfl⟩ : ∃ m', m = m' + 1 := ⟨m - 1, by omega⟩
    have h2 : v < 128 := by simpa using h
    rw [varF_lo h2, varF_lo h2]
  | succ n ih =>
    obtain ⟨m, rfl⟩ : ∃ m', m = m' + 1 := ⟨m - 1, by omega⟩
    by_cases h2 : v < 128
    · rw [varF_lo h2, varF_lo h2]
    · rw [varF_hi h2, varF_hi h2, ih m (v := v / 128) (by omega) (by rw [Nat.pow_succ] at h; omega) (by omega)]
theorem varL_len (v : Int) : (varL v).length ≤ 10 := varF_len 10 v
theorem varL_len5 {v : Int} (h0 : 0 ≤ v) (h : v ≤ 4294967295) : (varL v).length ≤ 5 := by
  unfold varL
  rw [varF_fit 4 10 h0 (by have : 128 ^ 5 = 34359738368 := by decide
                           omega) (by omega)]
  exact varF_len 5 v
theorem varL_pos (v : Int) : 1 ≤ (varL v).length := varF_pos 9 v
theorem varL_ok {v : Int} (h : 0 ≤ v) : isBytes (varL v) := varF_ok 10 h

def argsB (l : List Int) : List Int := l.flatMap varL
def bodyL (c : C) : List Int := varL c.arch ++ varL c.nr ++ argsB c.args
theorem argsB_take {l : List Int} {k : Nat} (h : k < l.length) : argsB (l.take (k + 1)) = argsB (l.take k) ++ varL (l.getD k 0) := by
  unfold argsB
  rw [List.take_succ_eq_append_getElem h, List.flatMap_append]
  simp [List.getElem?_eq_getElem h]
theorem argsB_len (l : List Int) : l.length ≤ (argsB l).length ∧ (argsB l).length ≤ 10 * l.length := by
  induction l with
  | nil => simp [argsB]
  | cons x l ih =>
    have h1 := varL_len x
    have h2 := varL_pos x
    simp only [argsB, List.flatMap_cons, List.length_append, List.length_cons] at *
    omega
theorem bodyL_len {c : C} (h : c.ok) : c.args.length + 2 ≤ (bodyL c).length ∧ (bodyL c).length ≤ 10 + 10 * c.args.length := by
  obtain ⟨h1, h2, h3, h4, _⟩ := h
  have a := varL_len5 h1 h2
  have b := varL_len5 h3 h4
  have a' := varL_pos c.arch
  have b' := varL_pos c.nr
  have d := argsB_len c.args
  simp only [bodyL, List.length_append]
  omega
theorem argsB_ok {l : List Int} (h : ∀ v ∈ l, isU64 v) : isBytes (argsB l) := by
  intro x hx
  simp only [argsB, List.mem_flatMap] at hx
  obtain ⟨v, hv, hx⟩ := hx
  exact varL_ok (h v hv).1 x hx
theorem isBytes_append {l m : List Int} (h : isBytes l) (h' : isBytes m) : isBytes (l ++ m) := by
  intro x hx
  rcases List.mem_append.1 hx with hx | hx
  · exact h x hx
  · exact h' x hx
theorem bodyL_ok {c : C} (h : c.ok) : isBytes (bodyL c) :=
  isBytes_append (isBytes_append (varL_ok h.1) (varL_ok h.2.2.1)) (argsB_ok h.2.2.2.2)

def frameL (b : List Int) : List Int := [((b.length % 256 : Nat) : Int)] ++ b ++ littleL (sumL b) 4
theorem frameL_len (b : List Int) : (frameL b).length = b.length + 5 := by simp [frameL, littleL_len]
def framesL (cs : List C) : List Int := cs.flatMap fun c => frameL (bodyL c)
def logL (cs : List C) : List Int := [67, 76, 79, 71, 1] ++ littleL cs.length 2 ++ framesL cs
theorem framesL_take {cs : List C} {k : Nat} (h : k < cs.length) : framesL (cs.take (k + 1)) = framesL (cs.take k) ++ frameL (bodyL (cs.getD k C.zero)) := by
  unfold framesL
  rw [List.take_succ_eq_append_getElem h, List.flatMap_append]
  simp [List.getElem?_eq_getElem h]
def six (c : C) : Bool := c.args.length == 6
def callsOk (cs : List C) : Bool := decide (cs.length ≤ 1000) && cs.all six
def encLog (cs : List C) : List Int := if callsOk cs then logL cs else []
theorem framesL_len {cs : List C} (h : ∀ c ∈ cs, c.ok) (h6 : ∀ c ∈ cs, c.args.length = 6) : (framesL cs).length ≤ 75 * cs.length := by
  induction cs with
  | nil => simp [framesL]
  | cons c cs ih =>
    have h1 := bodyL_len (h c (by simp))
    have h2 := h6 c (by simp)
    have h3 := ih (fun x hx => h x (by simp [hx])) (fun x hx => h6 x (by simp [hx]))
    simp only [framesL, List.flatMap_cons, List.length_append, List.length_cons, frameL_len] at *
    omega
theorem logL_len {cs : List C} (h : ∀ c ∈ cs, c.ok) (h6 : ∀ c ∈ cs, c.args.length = 6) : (logL cs).length ≤ 7 + 75 * cs.length := by
  have := framesL_len h h6
  simp [logL, littleL_len]; omega

/-- the bytes of a record -/
def longsB (l : List Int) : List Int := l.flatMap fun v => littleL v 8
theorem longsB_take {l : List Int} {k : Nat} (h : k < l.length) : longsB (l.take (k + 1)) = longsB (l.take k) ++ littleL (l.getD k 0) 8 := by
  unfold longsB
  rw [List.take_succ_eq_append_getElem h, List.flatMap_append]
  simp [List.getElem?_eq_getElem h]
theorem longsB_len (l : List Int) : (longsB l).length = 8 * l.length := by
  induction l with
  | nil => rfl
  | cons x l ih => simp only [longsB, List.flatMap_cons, List.length_append, List.length_cons, littleL_len] at *; omega
def recB (c : C) (ip : Int) : List Int := if c.args.length = 6 then littleL c.nr 4 ++ littleL c.arch 4 ++ littleL ip 8 ++ longsB c.args else []

/-- four bytes at once, eight bytes at once -/
theorem little4_eq {v : Int} (h : 0 ≤ v) (h1 : v ≤ 4294967295) : littleL v 4 = [v % 256, v / 256 % 256, v / 65536 % 256, v / 16777216] := by
  simp only [littleL]
  rw [show v / 256 / 256 % 256 = v / 65536 % 256 by omega, show v / 256 / 256 / 256 % 256 = v / 16777216 by omega]
theorem little8_eq {v : Int} (h : 0 ≤ v) (h1 : v ≤ 18446744073709551615) : littleL v 8 = littleL (v % 4294967296) 4 ++ littleL (v / 4294967296) 4 := by
  simp only [littleL, List.cons_append, List.nil_append, List.cons.injEq, and_true]
  refine ⟨by omega, by omega, by omega, by omega, by omega, by omega, by omega, by omega⟩
end Go.Proofs.YtljhccolmcoifaaGreat
