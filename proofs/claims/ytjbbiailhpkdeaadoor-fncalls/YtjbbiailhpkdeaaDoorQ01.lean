/-
  Math, MathB, MathD, MathS, MathN, MathL, MathM, DlgM
-/
import Derived.Below
import Derived.Laws.BitsAllLaws
import Derived.Laws.Closers25b
import Derived.Laws.Shifts
namespace Go.Proofs.YtjbbiailhpkdeaaDoor

/-- one instruction: its four numbers -/
structure I where
  c : Int
  jt : Int
  jf : Int
  k : Int

def I.ok (x : I) : Prop := 0 ≤ x.c ∧ x.c ≤ 65535 ∧ 0 ≤ x.jt ∧ x.jt ≤ 255 ∧ 0 ≤ x.jf ∧ x.jf ≤ 255 ∧ 0 ≤ x.k ∧ x.k ≤ 4294967295
def I.zero : I := ⟨0, 0, 0, 0⟩
theorem I.zero_ok : I.zero.ok := by unfold I.ok I.zero; decide

def codesL : List Int := [0, 1, 32, 96, 97, 2, 3, 4, 12, 20, 28, 36, 44, 52, 60, 68, 76, 84, 92, 164, 172, 100, 108, 116, 124, 132, 7, 135, 5, 21, 29, 37, 45, 53, 61, 69, 77, 6, 22]
def knownB (c : Int) : Bool := codesL.contains c
def memB (c : Int) : Bool := c == 96 || c == 97 || c == 2 || c == 3
def ariB (c : Int) : Bool := c == 4 || c == 20 || c == 36 || c == 52 || c == 68 || c == 84 || c == 164 || c == 100 || c == 116 || c == 12 || c == 28 || c == 44 || c == 60 || c == 76 || c == 92 || c == 172 || c == 108 || c == 124 || c == 132
def tstB (c : Int) : Bool := c == 21 || c == 37 || c == 53 || c == 69 || c == 29 || c == 45 || c == 61 || c == 77
def isKnownB (c : Int) : Bool := c == 0 || c == 1 || c == 32 || c == 7 || c == 135 || c == 5 || c == 6 || c == 22 || memB c || ariB c || tstB c

theorem isKnownB_eq (c : Int) : isKnownB c = knownB c := by
  simp only [isKnownB, memB, ariB, tstB, knownB, codesL, List.contains_cons, List.contains_nil, Bool.or_false]
  ac_rfl

theorem tst_known (c : Int) (h : tstB c = true) : knownB c = true := by
  rw [← isKnownB_eq]; simp [isKnownB, h]

theorem tst_of_known : ∀ c ∈ codesL, tstB c = (c % 8 == 5 && c != 5) := by decide

theorem tstB_eq (c : Int) : (knownB c && c % 8 == 5 && c != 5) = tstB c := by
  cases h : knownB c with
  | false =>
    cases h2 : tstB c with
    | false => simp
    | true => rw [tst_known c h2] at h; cases h
  | true =>
    have hm : c ∈ codesL := by simpa [knownB] using h
    rw [tst_of_known c hm]; simp

/-- the fault of the instruction (c, jt, jf, k) at index i of n, as the document's model has it -/
def faultS (n i c jt jf k : Int) : Int :=
  if knownB c = false then 2
  else if c = 32 ∧ (k % 4 ≠ 0 ∨ 60 < k) then 3
  else if memB c = true ∧ 16 ≤ k then 4
  else if c = 5 ∧ n ≤ i + 1 + k then 5
  else if tstB c = true ∧ (n ≤ i + 1 + jt ∨ n ≤ i + 1 + jf) then 5
  else if c = 52 ∧ k = 0 then 6
  else if (c = 100 ∨ c = 116) ∧ 32 ≤ k then 6
  else if i = n - 1 ∧ c ≠ 6 ∧ c ≠ 22 then 7
  else 0

def jumpB (c jt jf k after : Int) : Bool := if tstB c then (decide (after ≤ jt) || decide (after ≤ jf)) else (c == 5 && decide (after ≤ k))
def badB (c k : Int) : Bool := if c = 52 then k == 0 else if c = 100 ∨ c = 116 then decide (32 ≤ k) else false

/-- the fault as the program reckons it, from the number of instructions that follow -/
def faultI (c jt jf k after : Int) : Int :=
  if isKnownB c = false then 2
  else if c = 32 ∧ (k % 4 ≠ 0 ∨ 60 < k) then 3
  else if memB c = true ∧ 16 ≤ k then 4
  else if jumpB c jt jf k after = true then 5
  else if badB c k = true then 6
  else if after = 0 ∧ c ≠ 6 ∧ c ≠ 22 then 7
  else 0

theorem faultI_eq (n i c jt jf k : Int) : faultI c jt jf k (n - 1 - i) = faultS n i c jt jf k := by
  unfold faultI faultS
  rw [isKnownB_eq]
  have h5 : tstB 5 = false := by decide
  have hj : jumpB c jt jf k (n - 1 - i) = true ↔ ((c = 5 ∧ n ≤ i + 1 + k) ∨ (tstB c = true ∧ (n ≤ i + 1 + jt ∨ n ≤ i + 1 + jf))) := by
    unfold jumpB
    by_cases ht : tstB c = true
    · have hc : c ≠ 5 := by intro e; rw [e, h5] at ht; cases ht
      simp [ht, hc]; omega
    · simp [ht]; omega
  have hb : badB c k = true ↔ ((c = 52 ∧ k = 0) ∨ ((c = 100 ∨ c = 116) ∧ 32 ≤ k)) := by
    unfold badB
    by_cases h1 : c = 52
    · subst h1; simp
    · by_cases h2 : c = 100 ∨ c = 116
      · simp [h1, h2]
      · simp [h1, h2]
  have he : (n - 1 - i = 0 ∧ c ≠ 6 ∧ c ≠ 22) ↔ (i = n - 1 ∧ c ≠ 6 ∧ c ≠ 22) := by omega
  by_cases g1 : knownB c = false
  · simp only [if_pos g1]
  simp only [if_neg g1]
  by_cases g2 : c = 32 ∧ (k % 4 ≠ 0 ∨ 60 < k)
  · simp only [if_pos g2]
  simp only [if_neg g2]
  by_cases g3 : memB c = true ∧ 16 ≤ k
  · simp only [if_pos g3]
  simp only [if_neg g3]
  by_cases g4 : c = 5 ∧ n ≤ i + 1 + k
  · rw [if_pos (hj.2 (.inl g4)), if_pos g4]
  · by_cases g5 : tstB c = true ∧ (n ≤ i + 1 + jt ∨ n ≤ i + 1 + jf)
    · rw [if_pos (hj.2 (.inr g5)), if_neg g4, if_pos g5]
    · have hn : ¬ jumpB c jt jf k (n - 1 - i) = true := fun e => (hj.1 e).elim g4 g5
      rw [if_neg hn, if_neg g4, if_neg g5]
      by_cases g6 : c = 52 ∧ k = 0
      · rw [if_pos (hb.2 (.inl g6)), if_pos g6]
      · by_cases g7 : (c = 100 ∨ c = 116) ∧ 32 ≤ k
        · rw [if_pos (hb.2 (.inr g7)), if_neg g6, if_pos g7]
        · have hn2 : ¬ badB c k = true := fun e => (hb.1 e).elim g6 g7
          rw [if_neg hn2, if_neg g6, if_neg g7]
          by_cases g8 : i = n - 1 ∧ c ≠ 6 ∧ c ≠ 22
          · rw [if_pos (he.2 g8), if_pos g8]
          · rw [if_neg (fun e => g8 (he.1 e)), if_neg g8]

theorem faultS_bd (n i c jt jf k : Int) : 0 ≤ faultS n i c jt jf k ∧ faultS n i c jt jf k ≤ 7 := by
  unfold faultS
  repeat' split
  all_goals omega

/-- the first index from i on, among the next m, whose fault is not 0 -/
def ffrom (F : Nat → Int) : Nat → Nat → Int × Int
  | 0, _ => (0, 0)
  | m + 1, i => if F i = 0 then ffrom F m (i + 1) else (F i, (i : Int))

/-- the fault at index i of the program p -/
def faultAt (p : List I) (i : Nat) : Int := faultS p.length i (p.getD i I.zero).c (p.getD i I.zero).jt (p.getD i I.zero).jf (p.getD i I.zero).k

/-- what Validate answers -/
def validL (p : List I) : Int × Int := if p.length < 1 ∨ 4096 < p.length then (1, 0) else ffrom (faultAt p) p.length 0

theorem ffrom_step0 {F : Nat → Int} {n k : Nat} (h : k < n) (h0 : F k = 0) : ffrom F (n - (k + 1)) (k + 1) = ffrom F (n - k) k := by
  have e : n - k = (n - (k + 1)) + 1 := by omega
  rw [e, ffrom, if_pos h0]
theorem ffrom_hit {F : Nat → Int} {n k : Nat} (h : k < n) (h0 : F k ≠ 0) : ffrom F (n - k) k = (F k, (k : Int)) := by
  have e : n - k = (n - (k + 1)) + 1 := by omega
  rw [e, ffrom, if_neg h0]
theorem ffrom_end {F : Nat → Int} {n : Nat} : ffrom F (n - n) n = (0, 0) := by rw [Nat.sub_self]; rfl
theorem validL_big {p : List I} (h : p.length < 1 ∨ 4096 < p.length) : validL p = (1, 0) := by unfold validL; rw [if_pos h]
theorem validL_in {p : List I} (h1 : 1 ≤ p.length) (h2 : p.length ≤ 4096) : validL p = ffrom (faultAt p) (p.length - 0) 0 := by
  unfold validL; rw [if_neg (by omega), Nat.sub_zero]
end Go.Proofs.YtjbbiailhpkdeaaDoor
namespace Go.Proofs.YtjbbiailhpkdeaaDoor

/-- the n lowest bytes of v, the lowest first -/
def littleL : Int → Nat → List Int
  | _, 0 => []
  | v, n + 1 => v % 256 :: littleL (v / 256) n

theorem littleL_len (v : Int) (n : Nat) : (littleL v n).length = n := by
  induction n generalizing v with
  | zero => rfl
  | succ n ih => simp [littleL, ih]

theorem littleL_step {L l : List Int} {r : Int} {n k : Nat} (h : L = l ++ littleL r (n - k)) (hk : k < n) : L = (l ++ [r % 256]) ++ littleL (r / 256) (n - (k + 1)) := by
  have e : n - k = (n - (k + 1)) + 1 := by omega
  rw [h, e, littleL]; simp

/-- the bytes of one instruction -/
def encI (x : I) : List Int := littleL x.c 2 ++ [x.jt] ++ [x.jf] ++ littleL x.k 4
def encL (p : List I) : List Int := p.flatMap encI

theorem encI_len (x : I) : (encI x).length = 8 := by simp [encI, littleL_len]
theorem encL_len (p : List I) : (encL p).length = 8 * p.length := by
  induction p with
  | nil => rfl
  | cons x p ih => simp only [encL, List.flatMap_cons, List.length_append, encI_len, List.length_cons] at *; omega

theorem encL_take {p : List I} {k : Nat} (h : k < p.length) : encL (p.take (k + 1)) = encL (p.take k) ++ encI (p.getD k I.zero) := by
  unfold encL
  rw [List.take_succ_eq_append_getElem h, List.flatMap_append]
  simp [List.getElem?_eq_getElem h]
theorem encI_eq {x : I} (h : x.ok) : encI x = [x.c % 256, x.c / 256, x.jt, x.jf, x.k % 256, x.k / 256 % 256, x.k / 65536 % 256, x.k / 16777216] := by
  obtain ⟨h1, h2, h3, h4, h5, h6, h7, h8⟩ := h
  simp only [encI, littleL, List.cons_append, List.nil_append]
  rw [show x.c / 256 % 256 = x.c / 256 by omega, show x.k / 256 / 256 % 256 = x.k / 65536 % 256 by omega, show x.k / 256 / 256 / 256 % 256 = x.k / 16777216 by omega]
end Go.Proofs.YtjbbiailhpkdeaaDoor
namespace Go.Proofs.YtjbbiailhpkdeaaDoor

/-- the number whose bytes are given, the lowest first -/
def numL : List Int → Int
  | [] => 0
  | x :: t => x + 256 * numL t

def isBytes (l : List Int) : Prop := ∀ x ∈ l, 0 ≤ x ∧ x ≤ 255

theorem numL_bd {l : List Int} (h : isBytes l) : 0 ≤ numL l ∧ numL l < ((256 ^ l.length : Nat) : Int) := by
  induction l with
  | nil => simp [numL]
  | cons x t ih =>
    have hx := h x (by simp)
    have ht := ih (fun y hy => h y (by simp [hy]))
    simp only [numL, List.length_cons, Nat.pow_succ]
    omega

theorem numL_bd8 {l : List Int} (h : isBytes l) (hl : l.length ≤ 8) : 0 ≤ numL l ∧ numL l ≤ 18446744073709551615 := by
  have h1 := numL_bd h
  have h2 : 256 ^ l.length ≤ 256 ^ 8 := Nat.pow_le_pow_right (by omega) hl
  have h3 : 256 ^ 8 = 18446744073709551616 := by decide
  omega

theorem numL_drop {l : List Int} {k : Nat} (h : k < l.length) : numL (l.drop k) = l.getD k 0 + 256 * numL (l.drop (k + 1)) := by
  rw [List.drop_eq_getElem_cons h, numL, List.getD_eq_getElem?_getD, List.getElem?_eq_getElem h]; rfl

theorem isBytes_drop {l : List Int} (h : isBytes l) (k : Nat) : isBytes (l.drop k) := fun x hx => h x (List.mem_of_mem_drop hx)
theorem isBytes_getD {l : List Int} (h : isBytes l) (i : Nat) : 0 ≤ l.getD i 0 ∧ l.getD i 0 ≤ 255 := by
  by_cases hi : i < l.length
  · rw [List.getD_eq_getElem?_getD, List.getElem?_eq_getElem hi]; exact h _ (List.getElem_mem hi)
  · rw [List.getD_eq_getElem?_getD, List.getElem?_eq_none (by omega)]; simp

theorem join32 (i : Nat) (a b : Int) (h1 : 0 ≤ a) (h2 : a < 2 ^ i) (h3 : 0 ≤ b) (h4 : b % 2 ^ i = 0) (h5 : a < 4294967296) (h6 : b < 4294967296) : bits .or .u32 a b = a + b := by
  rw [u32_or a b h1 h5 h3 h6, Nat.or_comm]
  have e : (b.toNat ||| a.toNat) = b.toNat + a.toNat := by
    refine nat_join i _ _ ?_ ?_
    · have : ((b.toNat % 2 ^ i : Nat) : Int) = 0 := by rw [Int.natCast_emod, Int.toNat_of_nonneg h3, Int.natCast_pow]; exact h4
      omega
    · have : ((a.toNat : Nat) : Int) < ((2 ^ i : Nat) : Int) := by rw [Int.toNat_of_nonneg h1, Int.natCast_pow]; exact h2
      omega
  rw [e]; omega
theorem join16 (i : Nat) (a b : Int) (h1 : 0 ≤ a) (h2 : a < 2 ^ i) (h3 : 0 ≤ b) (h4 : b % 2 ^ i = 0) (h5 : a < 65536) (h6 : b < 65536) : bits .or .u16 a b = a + b := by
  rw [u16_or a b h1 h5 h3 h6, Nat.or_comm]
  have e : (b.toNat ||| a.toNat) = b.toNat + a.toNat := by
    refine nat_join i _ _ ?_ ?_
    · have : ((b.toNat % 2 ^ i : Nat) : Int) = 0 := by rw [Int.natCast_emod, Int.toNat_of_nonneg h3, Int.natCast_pow]; exact h4
      omega
    · have : ((a.toNat : Nat) : Int) < ((2 ^ i : Nat) : Int) := by rw [Int.toNat_of_nonneg h1, Int.natCast_pow]; exact h2
      omega
  rw [e]; omega

theorem word_bits (x0 x1 x2 x3 : Int) (h0 : 0 ≤ x0 ∧ x0 ≤ 255) (h1 : 0 ≤ x1 ∧ x1 ≤ 255) (h2 : 0 ≤ x2 ∧ x2 ≤ 255) (h3 : 0 ≤ x3 ∧ x3 ≤ 255) :
    bits .or .u32 (bits .or .u32 (bits .or .u32 x0 (x1 * 256)) (x2 * 65536)) (x3 * 16777216) = x0 + 256 * x1 + 65536 * x2 + 16777216 * x3 := by
  rw [join32 8 x0 (x1 * 256) h0.1 (by omega) (by omega) (by omega) (by omega) (by omega)]
  rw [join32 16 _ (x2 * 65536) (by omega) (by omega) (by omega) (by omega) (by omega) (by omega)]
  rw [join32 24 _ (x3 * 16777216) (by omega) (by omega) (by omega) (by omega) (by omega) (by omega)]
  omega
theorem half_bits (x0 x1 : Int) (h0 : 0 ≤ x0 ∧ x0 ≤ 255) (h1 : 0 ≤ x1 ∧ x1 ≤ 255) : bits .or .u16 x0 (x1 * 256) = x0 + 256 * x1 := by
  rw [join16 8 x0 (x1 * 256) h0.1 (by omega) (by omega) (by omega) (by omega) (by omega)]
  omega

/-- the instruction that begins at byte 8 i -/
def decI (l : List Int) (i : Nat) : I :=
  ⟨l.getD (i * 8) 0 + 256 * l.getD (i * 8 + 1) 0, l.getD (i * 8 + 2) 0, l.getD (i * 8 + 3) 0, l.getD (i * 8 + 4) 0 + 256 * l.getD (i * 8 + 5) 0 + 65536 * l.getD (i * 8 + 6) 0 + 16777216 * l.getD (i * 8 + 7) 0⟩
def decN (l : List Int) (k : Nat) : List I := (List.range k).map (decI l)
def decBad (l : List Int) : Bool := l.length % 8 != 0 || decide (32768 < l.length)
def decL (l : List Int) : List I := if decBad l then [] else decN l (l.length / 8)
def decC (l : List Int) : Int := if decBad l then 1 else 0

theorem decN_succ (l : List Int) (k : Nat) : decN l (k + 1) = decN l k ++ [decI l k] := by simp [decN, List.range_succ]
theorem decN_len (l : List Int) (k : Nat) : (decN l k).length = k := by simp [decN]
theorem decI_ok {l : List Int} (h : isBytes l) (i : Nat) : (decI l i).ok := by
  have b := fun j => isBytes_getD h j
  have b0 := b (i * 8); have b1 := b (i * 8 + 1); have b2 := b (i * 8 + 2); have b3 := b (i * 8 + 3)
  have b4 := b (i * 8 + 4); have b5 := b (i * 8 + 5); have b6 := b (i * 8 + 6); have b7 := b (i * 8 + 7)
  unfold decI I.ok
  simp only
  omega
theorem decL_ok {l : List Int} (h : isBytes l) : ∀ x ∈ decL l, x.ok := by
  intro x hx
  unfold decL at hx
  split at hx
  · simp at hx
  · simp only [decN, List.mem_map, List.mem_range] at hx
    obtain ⟨i, _, rfl⟩ := hx
    exact decI_ok h i
end Go.Proofs.YtjbbiailhpkdeaaDoor
namespace Go.Proofs.YtjbbiailhpkdeaaDoor

/-- one bit falls out of h and decides -/
def halfI (h : Int) : Int := if h % 2 = 1 then bits .xor .u32 (h / 2) 3988292384 else h / 2
def halfN : Nat → Int → Int
  | 0, h => h
  | n + 1, h => halfN n (halfI h)
/-- the checksum on its way, h so far -/
def sumF : Int → List Int → Int
  | h, [] => h
  | h, b :: r => sumF (halfN 8 (bits .xor .u32 h b)) r
def sumL (l : List Int) : Int := bits .xor .u32 (sumF 4294967295 l) 4294967295

theorem halfI_ok {h : Int} (h0 : 0 ≤ h) (h1 : h ≤ 4294967295) : 0 ≤ halfI h ∧ halfI h ≤ 4294967295 := by
  unfold halfI
  split
  · exact ⟨bits_lo_u32 _ _ _, bits_hi_u32 _ _ _⟩
  · omega
theorem halfN_ok (n : Nat) {h : Int} (h0 : 0 ≤ h) (h1 : h ≤ 4294967295) : 0 ≤ halfN n h ∧ halfN n h ≤ 4294967295 := by
  induction n generalizing h with
  | zero => exact ⟨h0, h1⟩
  | succ n ih => exact ih (halfI_ok h0 h1).1 (halfI_ok h0 h1).2
theorem sumL_ok (l : List Int) : 0 ≤ sumL l ∧ sumL l ≤ 4294967295 := ⟨bits_lo_u32 _ _ _, bits_hi_u32 _ _ _⟩

theorem halfN_step {X h : Int} {n : Nat} (e : X = halfN (n + 1) h) : X = halfN n (halfI h) := e
theorem sumF_step {X h : Int} {l : List Int} {k : Nat} (e : X = sumF h (l.drop k)) (hk : k < l.length) : X = sumF (halfN 8 (bits .xor .u32 h (l.getD k 0))) (l.drop (k + 1)) := by
  rw [List.drop_eq_getElem_cons hk] at e
  rw [e, List.getD_eq_getElem?_getD, List.getElem?_eq_getElem hk]
  rfl

/-- the lowest bit -/
theorem and1_u32 {h : Int} (h0 : 0 ≤ h) (h1 : h ≤ 4294967295) : bits .and .u32 h 1 = h % 2 := by
  rw [u32_and h 1 h0 (by omega) (by omega) (by omega)]
  have e : h.toNat &&& (1 : Int).toNat = h.toNat % 2 := Nat.and_two_pow_sub_one_eq_mod h.toNat 1
  rw [e]; omega
/-- the other bits -/
theorem not_u32 {h : Int} (h0 : 0 ≤ h) (h1 : h ≤ 4294967295) : bits .xor .u32 h 4294967295 = 4294967295 - h := by
  rw [u32_xor h 4294967295 h0 (by omega) (by omega) (by omega)]
  have h2 : h.toNat < 2 ^ 32 := by omega
  have e : h.toNat ^^^ (4294967295 : Int).toNat = 4294967295 - h.toNat := by
    have e1 : (BitVec.ofNat 32 h.toNat ^^^ BitVec.allOnes 32).toNat = (~~~ (BitVec.ofNat 32 h.toNat)).toNat := by rw [BitVec.xor_allOnes]
    rw [BitVec.toNat_xor, BitVec.toNat_not, BitVec.toNat_ofNat, Nat.mod_eq_of_lt h2, BitVec.toNat_allOnes] at e1
    simpa using e1
  rw [e]; omega
theorem not2_u32 {h : Int} (h0 : 0 ≤ h) (h1 : h ≤ 4294967295) : bits .xor .u32 IntKind.u32.max h = 4294967295 - h := by
  have e : IntKind.u32.max = 4294967295 := by decide
  rw [e, ← not_u32 h0 h1, u32_xor h 4294967295 h0 (by omega) (by omega) (by omega), u32_xor 4294967295 h (by omega) (by omega) h0 (by omega), Nat.xor_comm]
end Go.Proofs.YtjbbiailhpkdeaaDoor
namespace Go.Proofs.YtjbbiailhpkdeaaDoor
set_option linter.unusedVariables false

/-- one call: its numbers -/
structure C where
  arch : Int
  nr : Int
  args : List Int

def isU64 (v : Int) : Prop := 0 ≤ v ∧ v ≤ 18446744073709551615
def C.ok (x : C) : Prop := 0 ≤ x.arch ∧ x.arch ≤ 4294967295 ∧ 0 ≤ x.nr ∧ x.nr ≤ 4294967295 ∧ ∀ v ∈ x.args, isU64 v
def C.zero : C := ⟨0, 0, []⟩
theorem C.zero_ok : C.zero.ok := ⟨by decide, by decide, by decide, by decide, fun v h => by simp [C.zero] at h⟩

/-- a number in digits of seven bits, the lowest first, at most n of them -/
def varF : Nat → Int → List Int
  | 0, _ => []
  | n + 1, v => if v < 128 then [v] else (v % 128 + 128) :: varF n (v / 128)
def varL (v : Int) : List Int := varF 10 v

theorem varF_lo {n : Nat} {v : Int} (h : v < 128) : varF (n + 1) v = [v] := by simp [varF, h]
theorem varF_hi {n : Nat} {v : Int} (h : ¬ v < 128) : varF (n + 1) v = (v % 128 + 128) :: varF n (v / 128) := by simp [varF, h]
theorem varF_len (n : Nat) (v : Int) : (varF n v).length ≤ n := by
  induction n generalizing v with
  | zero => simp [varF]
  | succ n ih =>
    unfold varF
    split
    · simp
    · have := ih (v / 128); simp; exact this
theorem varF_pos (n : Nat) (v : Int) : 1 ≤ (varF (n + 1) v).length := by
  unfold varF
  split <;> simp
theorem varF_ok (n : Nat) {v : Int} (h : 0 ≤ v) : isBytes (varF n v) := by
  induction n generalizing v with
  | zero => intro x hx; simp [varF] at hx
  | succ n ih =>
    intro x hx
    unfold varF at hx
    split at hx
    · simp at hx; omega
    · simp only [List.mem_cons] at hx
      rcases hx with rfl | hx
      · omega
      · exact ih (by omega) x hx
/-- enough digits are enough -/
theorem varF_fit (n m : Nat) {v : Int} (h0 : 0 ≤ v) (h : v < ((128 ^ (n + 1) : Nat) : Int)) (h1 : n + 1 ≤ m) : varF m v = varF (n + 1) v := by
  induction n generalizing m v with
  | zero =>
    obtain ⟨m, rfl⟩ : ∃ m', m = m' + 1 := ⟨m - 1, by omega⟩
    have h2 : v < 128 := by simpa using h
    rw [varF_lo h2, varF_lo h2]
  | succ n ih =>
    obtain ⟨m, rfl⟩ : ∃ m', m = m' + 1 := ⟨m - 1, by omega⟩
    by_cases h2 : v < 128
    · rw [varF_lo h2, varF_lo h2]
    · rw [varF_hi h2, varF_hi h2, ih m (v := v / 128) (by omega) (by rw [Nat.pow_succ] at h; omega) (by omega)]
theorem varL_len (v : Int) : (varL v).length ≤ 10 := varF_len 10 v
theorem varL_len5 {v : Int} (h0 : 0 ≤ v) (h : v ≤ 4294967295) : (varL v).length ≤ 5 := by
  unfold varL
  rw [varF_fit 4 10 h0 (by have : 128 ^ 5 = 34359738368 := by decide
                           omega) (by omega)]
  exact varF_len 5 v
theorem varL_pos (v : Int) : 1 ≤ (varL v).length := varF_pos 9 v
theorem varL_ok {v : Int} (h : 0 ≤ v) : isBytes (varL v) := varF_ok 10 h

def argsB (l : List Int) : List Int := l.flatMap varL
def bodyL (c : C) : List Int := varL c.arch ++ varL c.nr ++ argsB c.args
theorem argsB_take {l : List Int} {k : Nat} (h : k < l.length) : argsB (l.take (k + 1)) = argsB (l.take k) ++ varL (l.getD k 0) := by
  unfold argsB
  rw [List.take_succ_eq_append_getElem h, List.flatMap_append]
  simp [List.getElem?_eq_getElem h]
theorem argsB_len (l : List Int) : l.length ≤ (argsB l).length ∧ (argsB l).length ≤ 10 * l.length := by
  induction l with
  | nil => simp [argsB]
  | cons x l ih =>
    have h1 := varL_len x
    have h2 := varL_pos x
    simp only [argsB, List.flatMap_cons, List.length_append, List.length_cons] at *
    omega
theorem bodyL_len {c : C} (h : c.ok) : c.args.length + 2 ≤ (bodyL c).length ∧ (bodyL c).length ≤ 10 + 10 * c.args.length := by
  obtain ⟨h1, h2, h3, h4, _⟩ := h
  have a := varL_len5 h1 h2
  have b := varL_len5 h3 h4
  have a' := varL_pos c.arch
  have b' := varL_pos c.nr
  have d := argsB_len c.args
  simp only [bodyL, List.length_append]
  omega
theorem argsB_ok {l : List Int} (h : ∀ v ∈ l, isU64 v) : isBytes (argsB l) := by
  intro x hx
  simp only [argsB, List.mem_flatMap] at hx
  obtain ⟨v, hv, hx⟩ := hx
  exact varL_ok (h v hv).1 x hx
theorem isBytes_append {l m : List Int} (h : isBytes l) (h' : isBytes m) : isBytes (l ++ m) := by
  intro x hx
  rcases List.mem_append.1 hx with hx | hx
  · exact h x hx
  · exact h' x hx
theorem bodyL_ok {c : C} (h : c.ok) : isBytes (bodyL c) :=
  isBytes_append (isBytes_append (varL_ok h.1) (varL_ok h.2.2.1)) (argsB_ok h.2.2.2.2)

def frameL (b : List Int) : List Int := [((b.length % 256 : Nat) : Int)] ++ b ++ littleL (sumL b) 4
theorem frameL_len (b : List Int) : (frameL b).length = b.length + 5 := by simp [frameL, littleL_len]
def framesL (cs : List C) : List Int := cs.flatMap fun c => frameL (bodyL c)
def logL (cs : List C) : List Int := [67, 76, 79, 71, 1] ++ littleL cs.length 2 ++ framesL cs
theorem framesL_take {cs : List C} {k : Nat} (h : k < cs.length) : framesL (cs.take (k + 1)) = framesL (cs.take k) ++ frameL (bodyL (cs.getD k C.zero)) := by
  unfold framesL
  rw [List.take_succ_eq_append_getElem h, List.flatMap_append]
  simp [List.getElem?_eq_getElem h]
def six (c : C) : Bool := c.args.length == 6
def callsOk (cs : List C) : Bool := decide (cs.length ≤ 1000) && cs.all six
def encLog (cs : List C) : List Int := if callsOk cs then logL cs else []
theorem framesL_len {cs : List C} (h : ∀ c ∈ cs, c.ok) (h6 : ∀ c ∈ cs, c.args.length = 6) : (framesL cs).length ≤ 75 * cs.length := by
  induction cs with
  | nil => simp [framesL]
  | cons c cs ih =>
    have h1 := bodyL_len (h c (by simp))
    have h2 := h6 c (by simp)
    have h3 := ih (fun x hx => h x (by simp [hx])) (fun x hx => h6 x (by simp [hx]))
    simp only [framesL, List.flatMap_cons, List.length_append, List.length_cons, frameL_len] at *
    omega
theorem logL_len {cs : List C} (h : ∀ c ∈ cs, c.ok) (h6 : ∀ c ∈ cs, c.args.length = 6) : (logL cs).length ≤ 7 + 75 * cs.length := by
  have := framesL_len h h6
  simp [logL, littleL_len]; omega

/-- the bytes of a record -/
def longsB (l : List Int) : List Int := l.flatMap fun v => littleL v 8
theorem longsB_take {l : List Int} {k : Nat} (h : k < l.length) : longsB (l.take (k + 1)) = longsB (l.take k) ++ littleL (l.getD k 0) 8 := by
  unfold longsB
  rw [List.take_succ_eq_append_getElem h, List.flatMap_append]
  simp [List.getElem?_eq_getElem h]
theorem longsB_len (l : List Int) : (longsB l).length = 8 * l.length := by
  induction l with
  | nil => rfl
  | cons x l ih => simp only [longsB, List.flatMap_cons, List.length_append, List.length_cons, littleL_len] at *; omega
def recB (c : C) (ip : Int) : List Int := if c.args.length = 6 then littleL c.nr 4 ++ littleL c.arch 4 ++ littleL ip 8 ++ longsB c.args else []

/-- four bytes at once, eight bytes at once -/
theorem little4_eq {v : Int} (h : 0 ≤ v) (h1 : v ≤ 4294967295) : littleL v 4 = [v % 256, v / 256 % 256, v / 65536 % 256, v / 16777216] := by
  simp only [littleL]
  rw [show v / 256 / 256 % 256 = v / 65536 % 256 by omega, show v / 256 / 256 / 256 % 256 = v / 16777216 by omega]
theorem little8_eq {v : Int} (h : 0 ≤ v) (h1 : v ≤ 18446744073709551615) : littleL v 8 = littleL (v % 4294967296) 4 ++ littleL (v / 4294967296) 4 := by
  simp only [littleL, List.cons_append, List.nil_append, List.cons.injEq, and_true]
  refine ⟨by omega, by omega, by omega, by omega, by omega, by omega, by omega, by omega⟩
end Go.Proofs.YtjbbiailhpkdeaaDoor
namespace Go.Proofs.YtjbbiailhpkdeaaDoor
set_option linter.unusedVariables false

/-- the first piece of the bytes: up to the first byte below 128 -/
def piece : List Int → Option (List Int × List Int)
  | [] => none
  | b :: r => if b < 128 then some ([b], r) else (piece r).map fun q => (b :: q.1, q.2)

/-- one number read, k digits and the value v behind it -/
def readF : Nat → Int → List Int → Option (Int × List Int)
  | _, _, [] => none
  | k, v, b :: r => if 18446744073709551616 ≤ b % 128 * 128 ^ k then none
    else if b < 128 then (if b = 0 ∧ 0 < k then none else some (v + b % 128 * 128 ^ k, r))
    else readF (k + 1) (v + b % 128 * 128 ^ k) r

/-- the same within a piece -/
def readP : Nat → Int → List Int → Option Int
  | _, _, [] => none
  | k, v, b :: r => if 18446744073709551616 ≤ b % 128 * 128 ^ k then none
    else if b < 128 then (if b = 0 ∧ 0 < k then none else some (v + b % 128 * 128 ^ k))
    else readP (k + 1) (v + b % 128 * 128 ^ k) r

theorem readF_piece (l : List Int) (k : Nat) (v : Int) : readF k v l = (piece l).bind fun q => (readP k v q.1).map fun x => (x, q.2) := by
  induction l generalizing k v with
  | nil => simp [readF, piece]
  | cons b r ih =>
    simp only [readF, piece]
    by_cases h2 : b < 128
    · simp only [h2, if_true, Option.bind_some, readP]
      split
      · simp
      · split <;> simp
    · simp only [h2, if_false, ih, Option.bind_map]
      cases hp : piece r with
      | none => simp
      | some q =>
        simp only [Option.bind_some, Function.comp, readP, h2, if_false]
        split <;> simp

def val : List Int → Int
  | [] => 0
  | b :: r => b % 128 + 128 * val r

def isPiece : List Int → Prop
  | [] => False
  | b :: r => (b < 128 ∧ r = []) ∨ (128 ≤ b ∧ isPiece r)

theorem piece_ok {l p r : List Int} (h : piece l = some (p, r)) : isPiece p ∧ l = p ++ r := by
  induction l generalizing p r with
  | nil => simp [piece] at h
  | cons b t ih =>
    unfold piece at h
    split at h
    · rename_i hb
      simp at h
      obtain ⟨rfl, rfl⟩ := h
      exact ⟨.inl ⟨hb, rfl⟩, rfl⟩
    · rename_i hb
      cases hp : piece t with
      | none => rw [hp] at h; simp at h
      | some q =>
        rw [hp] at h
        simp at h
        obtain ⟨rfl, rfl⟩ := h
        obtain ⟨h1, h2⟩ := ih (p := q.1) (r := q.2) (by rw [hp])
        exact ⟨.inr ⟨by omega, h1⟩, by rw [h2]; simp⟩

theorem val_nonneg (l : List Int) : 0 ≤ val l := by
  induction l with
  | nil => simp [val]
  | cons b r ih => simp only [val]; omega

/-- the last byte of a piece is none but the only one, or not 0 -/
def tight : Nat → List Int → Bool
  | _, [] => false
  | k, [b] => decide (b ≠ 0 ∨ k = 0)
  | k, _ :: c :: r => tight (k + 1) (c :: r)

theorem tight_pos {p : List Int} {k : Nat} (hp : isPiece p) (hb : isBytes p) (h : tight (k + 1) p = true) : 1 ≤ val p := by
  induction p generalizing k with
  | nil => exact hp.elim
  | cons b r ih =>
    cases r with
    | nil =>
      simp only [tight, decide_eq_true_eq] at h
      have := hb b (by simp)
      rcases hp with ⟨h1, _⟩ | ⟨_, h1⟩
      · simp only [val]; omega
      · exact h1.elim
    | cons c r =>
      rcases hp with ⟨_, h1⟩ | ⟨_, h1⟩
      · cases h1
      · have := ih (k := k + 1) h1 (fun x hx => hb x (by simp [hx])) h
        simp only [val] at this ⊢; omega

theorem pow_bound {d V : Int} {k : Nat} (h0 : 0 ≤ d) (hd : d < 128) (hV : 1 ≤ V) : (d * 128 ^ k < 18446744073709551616 ∧ V * 128 ^ (k + 1) < 18446744073709551616) ↔ (d + 128 * V) * 128 ^ k < 18446744073709551616 := by
  have hP : (1 : Int) ≤ 128 ^ k := by
    have : (1 : Nat) ≤ 128 ^ k := Nat.one_le_pow _ _ (by omega)
    have e : ((128 ^ k : Nat) : Int) = (128 : Int) ^ k := by simp
    omega
  have e1 : (d + 128 * V) * 128 ^ k = d * 128 ^ k + V * 128 ^ (k + 1) := by
    rw [Int.pow_succ, Int.add_mul, Int.mul_assoc 128 V, Int.mul_left_comm 128 V, Int.mul_comm 128]
  have hd1 : d * 128 ^ k < 128 ^ (k + 1) := by
    rw [Int.pow_succ, Int.mul_comm _ 128]
    exact Int.mul_lt_mul_of_pos_right hd (by omega)
  have hd0 : 0 ≤ d * 128 ^ k := Int.mul_nonneg h0 (by omega)
  have hV0 : (128 : Int) ^ (k + 1) ≤ V * 128 ^ (k + 1) := by
    have : (0 : Int) ≤ 128 ^ (k + 1) := by rw [Int.pow_succ]; omega
    have := Int.mul_le_mul_of_nonneg_right hV this
    omega
  rw [e1]
  constructor
  · rintro ⟨_, h2⟩
    by_cases hk : k ≤ 8
    · have hdv : (128 : Nat) ^ (k + 1) ∣ 18446744073709551616 := by
        have e2 : (128 : Nat) ^ (k + 1) = 2 ^ (7 * (k + 1)) := by rw [show (128 : Nat) = 2 ^ 7 by decide, ← Nat.pow_mul]
        rw [e2, show (18446744073709551616 : Nat) = 2 ^ 64 by decide]
        exact Nat.pow_dvd_pow 2 (by omega)
      obtain ⟨t, ht⟩ := hdv
      have ht' : (18446744073709551616 : Int) = 128 ^ (k + 1) * (t : Int) := by
        have := congrArg (fun n : Nat => (n : Int)) ht
        simpa using this
      have hq : V < t := by
        rw [ht', Int.mul_comm] at h2
        exact Int.lt_of_mul_lt_mul_left h2 (by rw [Int.pow_succ]; omega)
      have h3 : (V + 1) * 128 ^ (k + 1) ≤ 18446744073709551616 := by
        rw [ht', Int.mul_comm]
        exact Int.mul_le_mul_of_nonneg_left (by omega) (by rw [Int.pow_succ]; omega)
      rw [Int.add_mul] at h3
      omega
    · exfalso
      have h4 : (128 : Nat) ^ 10 ≤ 128 ^ (k + 1) := Nat.pow_le_pow_right (by omega) (by omega)
      have e : ((128 ^ (k + 1) : Nat) : Int) = (128 : Int) ^ (k + 1) := by simp
      have h5 : (128 : Nat) ^ 10 = 1180591620717411303424 := by decide
      omega
  · intro h
    omega

theorem readP_eq {p : List Int} (hp : isPiece p) (hb : isBytes p) (k : Nat) (v : Int) :
    readP k v p = if val p * 128 ^ k < 18446744073709551616 ∧ tight k p = true then some (v + val p * 128 ^ k) else none := by
  induction p generalizing k v with
  | nil => exact hp.elim
  | cons b r ih =>
    have hb0 := hb b (by simp)
    rcases hp with ⟨h1, rfl⟩ | ⟨h1, h2⟩
    · have e : b % 128 = b := by omega
      have eV : val [b] = b := by simp [val, e]
      have eT : tight k [b] = true ↔ (b ≠ 0 ∨ k = 0) := by simp [tight]
      simp only [readP, h1, if_true, e, eV, eT]
      by_cases h3 : 18446744073709551616 ≤ b * 128 ^ k
      · rw [if_pos h3, if_neg (by omega)]
      · rw [if_neg h3]
        by_cases h4 : b = 0 ∧ 0 < k
        · rw [if_pos h4, if_neg (by omega)]
        · rw [if_neg h4, if_pos (by omega)]
    · have ht : tight k (b :: r) = tight (k + 1) r := by
        cases r with
        | nil => exact h2.elim
        | cons c r => rfl
      have hbr : isBytes r := fun x hx => hb x (by simp [hx])
      simp only [readP, if_neg (show ¬ b < 128 by omega)]
      rw [ih h2 hbr (k + 1) (v + b % 128 * 128 ^ k)]
      have e1 : v + b % 128 * 128 ^ k + val r * 128 ^ (k + 1) = v + val (b :: r) * 128 ^ k := by
        simp only [val]
        rw [Int.pow_succ, Int.add_mul, Int.mul_assoc 128, Int.mul_left_comm 128, Int.mul_comm 128]
        omega
      rw [ht]
      by_cases hT : tight (k + 1) r = true
      · have hV := tight_pos h2 hbr hT
        have hw := pow_bound (d := b % 128) (V := val r) (k := k) (by omega) (by omega) hV
        by_cases h3 : 18446744073709551616 ≤ b % 128 * 128 ^ k
        · rw [if_pos h3, if_neg]
          intro h4
          have := hw.2 (by simpa only [val] using h4.1)
          omega
        · rw [if_neg h3]
          by_cases h5 : val r * 128 ^ (k + 1) < 18446744073709551616
          · rw [if_pos ⟨h5, hT⟩, if_pos ⟨by have := hw.1 ⟨by omega, h5⟩; simpa only [val] using this, hT⟩, e1]
          · rw [if_neg (fun h => h5 h.1), if_neg]
            intro h4
            exact h5 (hw.2 (by simpa only [val] using h4.1)).2
      · rw [Bool.not_eq_true] at hT
        simp [hT]

/-- what the digits of a number amount to -/
theorem val_varF (n : Nat) {v : Int} (h0 : 0 ≤ v) (h : v < ((128 ^ n : Nat) : Int)) : val (varF n v) = v := by
  induction n generalizing v with
  | zero => simp at h; simp [varF, val]; omega
  | succ n ih =>
    by_cases h2 : v < 128
    · rw [varF_lo h2]; simp only [val]; omega
    · rw [varF_hi h2, val, ih (by omega) (by rw [Nat.pow_succ] at h; omega)]
      omega
theorem piece_varF (n : Nat) {v : Int} (h : v < ((128 ^ (n + 1) : Nat) : Int)) : isPiece (varF (n + 1) v) := by
  induction n generalizing v with
  | zero => rw [varF_lo (by simpa using h)]; exact .inl ⟨by simpa using h, rfl⟩
  | succ n ih =>
    by_cases h2 : v < 128
    · rw [varF_lo h2]; exact .inl ⟨h2, rfl⟩
    · rw [varF_hi h2]; exact .inr ⟨by omega, ih (by rw [Nat.pow_succ] at h; omega)⟩
theorem tight_cons {k : Nat} {b : Int} {l : List Int} (h : l ≠ []) : tight k (b :: l) = tight (k + 1) l := by
  cases l with
  | nil => exact (h rfl).elim
  | cons c r => rfl
theorem tight_varF (n k : Nat) {v : Int} (h0 : 0 < v ∨ (v = 0 ∧ k = 0)) (h : v < ((128 ^ (n + 1) : Nat) : Int)) : tight k (varF (n + 1) v) = true := by
  induction n generalizing v k with
  | zero => rw [varF_lo (by simpa using h)]; simp [tight]; omega
  | succ n ih =>
    by_cases h2 : v < 128
    · rw [varF_lo h2]; simp [tight]; omega
    · rw [varF_hi h2, tight_cons (fun e => by have := varF_pos n (v / 128); rw [e] at this; simp at this)]
      exact ih (k + 1) (.inl (by omega)) (by rw [Nat.pow_succ] at h; omega)
/-- and the other way round: a tight piece is how its number is written -/
theorem varF_val {p : List Int} (hp : isPiece p) (hb : isBytes p) (n k : Nat) (ht : tight k p = true) (hn : p.length ≤ n) : varF n (val p) = p := by
  induction p generalizing n k with
  | nil => exact hp.elim
  | cons b r ih =>
    obtain ⟨n, rfl⟩ : ∃ m, n = m + 1 := ⟨n - 1, by simp at hn; omega⟩
    have hb0 := hb b (by simp)
    rcases hp with ⟨h1, rfl⟩ | ⟨h1, h2⟩
    · have e : val [b] = b := by simp [val]; omega
      rw [e, varF_lo h1]
    · have hne : r ≠ [] := fun e => by rw [e] at h2; exact h2
      rw [tight_cons hne] at ht
      have hbr : isBytes r := fun x hx => hb x (by simp [hx])
      have hV := tight_pos h2 hbr ht
      have e1 : (b % 128 + 128 * val r) / 128 = val r := by omega
      have e2 : (b % 128 + 128 * val r) % 128 + 128 = b := by omega
      rw [val, varF_hi (by omega), e1, e2, ih h2 hbr n (k + 1) ht (by simpa using hn)]
theorem tight_len {p : List Int} (hp : isPiece p) (hb : isBytes p) (k : Nat) (ht : tight (k + 1) p = true) : ((128 ^ (p.length - 1) : Nat) : Int) ≤ val p := by
  induction p generalizing k with
  | nil => exact hp.elim
  | cons b r ih =>
    have hb0 := hb b (by simp)
    rcases hp with ⟨h1, rfl⟩ | ⟨h1, h2⟩
    · simp [tight] at ht
      simp [val]; omega
    · have hne : r ≠ [] := fun e => by rw [e] at h2; exact h2
      rw [tight_cons hne] at ht
      have := ih h2 (fun x hx => hb x (by simp [hx])) (k + 1) ht
      have hl : 0 < r.length := List.length_pos_iff.2 hne
      obtain ⟨m, hm⟩ : ∃ m, r.length = m + 1 := ⟨r.length - 1, by omega⟩
      simp only [val, List.length_cons, hm, Nat.add_sub_cancel] at this ⊢
      rw [Nat.pow_succ]
      omega
theorem tight_len10 {p : List Int} (hp : isPiece p) (hb : isBytes p) (ht : tight 0 p = true) (h : val p < 18446744073709551616) : p.length ≤ 10 := by
  match p, hp with
  | b :: r, hp =>
    rcases hp with ⟨h1, rfl⟩ | ⟨h1, h2⟩
    · simp
    · have hne : r ≠ [] := fun e => by rw [e] at h2; exact h2
      rw [tight_cons hne] at ht
      have := tight_len h2 (fun x hx => hb x (by simp [hx])) 0 ht
      have hb0 := hb b (by simp)
      simp only [val] at h
      by_cases hl : r.length ≤ 9
      · simp; omega
      · exfalso
        have h4 : (128 : Nat) ^ 9 ≤ 128 ^ (r.length - 1) := Nat.pow_le_pow_right (by omega) (by omega)
        have h5 : (128 : Nat) ^ 9 = 9223372036854775808 := by decide
        omega

/-- the number of a piece as the model has it -/
def valueL (p : List Int) : Option Int :=
  if p.length ≤ 10 ∧ varL (val p % 18446744073709551616) = p then some (val p % 18446744073709551616) else none

theorem valueL_eq {p : List Int} (hp : isPiece p) (hb : isBytes p) : valueL p = readP 0 0 p := by
  rw [readP_eq hp hb]
  simp only [Int.pow_zero, Int.mul_one, Int.zero_add]
  unfold valueL
  have h10 : (128 : Nat) ^ 10 = 1180591620717411303424 := by decide
  by_cases h : val p < 18446744073709551616 ∧ tight 0 p = true
  · rw [if_pos h]
    have e : val p % 18446744073709551616 = val p := Int.emod_eq_of_lt (val_nonneg p) h.1
    have hl := tight_len10 hp hb h.2 h.1
    rw [e, if_pos ⟨hl, varF_val hp hb 10 0 h.2 hl⟩]
  · rw [if_neg h, if_neg]
    rintro ⟨_, h2⟩
    apply h
    have hm0 : 0 ≤ val p % 18446744073709551616 := Int.emod_nonneg _ (by omega)
    have hm1 : val p % 18446744073709551616 < 18446744073709551616 := Int.emod_lt_of_pos _ (by omega)
    have hv : val p = val p % 18446744073709551616 := by
      have := val_varF 10 hm0 (by omega)
      unfold varL at h2
      rw [h2] at this
      exact this
    refine ⟨by omega, ?_⟩
    rw [← h2]
    exact tight_varF 9 0 (by omega) (by rw [show 9 + 1 = 10 by omega]; omega)

/-- a body cut into pieces; what has been gathered of the next one -/
def cutF : List Int → List Int → List (List Int) × List Int
  | one, [] => ([], one)
  | one, b :: r => if b < 128 then ((one ++ [b]) :: (cutF [] r).1, (cutF [] r).2) else cutF (one ++ [b]) r
theorem cutF_piece (l : List Int) (one : List Int) : cutF one l = match piece l with
    | none => ([], one ++ l)
    | some q => ((one ++ q.1) :: (cutF [] q.2).1, (cutF [] q.2).2) := by
  induction l generalizing one with
  | nil => simp [cutF, piece]
  | cons b r ih =>
    simp only [cutF, piece]
    by_cases h : b < 128
    · simp [h]
    · simp only [h, if_false]
      rw [ih]
      cases piece r with
      | none => simp
      | some q => simp

/-- n numbers read one behind another -/
def numsR : Nat → List Int → Option (List Int × List Int)
  | 0, l => some ([], l)
  | n + 1, l => (readF 0 0 l).bind fun q => (numsR n q.2).map fun t => (q.1 :: t.1, t.2)
def numsL (n : Nat) (l : List Int) : Option (List Int) := (numsR n l).bind fun t => if t.2 = [] then some t.1 else none
/-- n numbers out of the pieces -/
def valsL : List (List Int) → Option (List Int)
  | [] => some []
  | p :: ps => (valueL p).bind fun v => (valsL ps).map fun t => v :: t
def cutN (n : Nat) (l : List Int) : Option (List Int) := if (cutF [] l).2 = [] ∧ (cutF [] l).1.length = n then valsL (cutF [] l).1 else none

theorem cutN_eq (n : Nat) {l : List Int} (hb : isBytes l) : cutN n l = numsL n l := by
  induction n generalizing l with
  | zero =>
    unfold cutN numsL numsR
    rw [cutF_piece]
    cases hp : piece l with
    | none =>
      simp only [List.nil_append, List.length_nil, and_true, Option.bind_some, valsL]
    | some q =>
      obtain ⟨_, rfl⟩ := piece_ok (p := q.1) (r := q.2) hp
      obtain ⟨h1, _⟩ := piece_ok (p := q.1) (r := q.2) hp
      have hne : q.1 ≠ [] := fun e => by rw [e] at h1; exact h1
      simp [hne]
  | succ n ih =>
    unfold cutN numsL numsR
    rw [cutF_piece, readF_piece]
    cases hp : piece l with
    | none => simp
    | some q =>
      obtain ⟨h1, e⟩ := piece_ok (p := q.1) (r := q.2) hp
      have hb1 : isBytes q.1 := fun x hx => hb x (by rw [e]; simp [hx])
      have hb2 : isBytes q.2 := fun x hx => hb x (by rw [e]; simp [hx])
      have hI := ih hb2
      unfold cutN numsL at hI
      simp only [List.nil_append, List.length_cons, Nat.add_right_cancel_iff, valsL, Option.bind_some]
      rw [← valueL_eq h1 hb1]
      cases valueL q.1 with
      | none => simp
      | some v =>
        simp only [Option.bind_some, Option.map_some]
        have e2 : ∀ (o : Option (List Int × List Int)), ((o.map fun t => (v :: t.1, t.2)).bind fun t => if t.2 = [] then some t.1 else none) = (o.bind fun t => if t.2 = [] then some t.1 else none).map fun t => v :: t := by
          intro o
          cases o with
          | none => rfl
          | some t => simp only [Option.map_some, Option.bind_some]; split <;> simp
        rw [e2, ← hI]
        split <;> simp
end Go.Proofs.YtjbbiailhpkdeaaDoor
namespace Go.Proofs.YtjbbiailhpkdeaaDoor
set_option linter.unusedVariables false

/-- the call of eight numbers -/
def callOf (vs : List Int) : Option C := if vs.getD 0 0 ≤ 4294967295 ∧ vs.getD 1 0 ≤ 4294967295 then some ⟨vs.getD 0 0, vs.getD 1 0, vs.drop 2⟩ else none
def callB (b : List Int) : Option C := (numsL 8 b).bind callOf

/-- one frame read off the bytes l that are left of n -/
def frameR (n : Nat) (l : List Int) : (Int × Nat) ⊕ (C × List Int) :=
  if l = [] then .inl (5, n)
  else if l.getD 0 0 < 8 ∨ 70 < l.getD 0 0 then .inl (6, n - l.length)
  else if l.length < 1 + (l.getD 0 0).toNat + 4 then .inl (5, n)
  else if littleL (sumL ((l.drop 1).take (l.getD 0 0).toNat)) 4 ≠ (l.drop (1 + (l.getD 0 0).toNat)).take 4 then .inl (7, n - l.length + 1 + (l.getD 0 0).toNat)
  else match callB ((l.drop 1).take (l.getD 0 0).toNat) with
    | none => .inl (8, n - l.length + 1)
    | some c => .inr (c, l.drop (1 + (l.getD 0 0).toNat + 4))

def framesR (n : Nat) : Nat → List Int → (Int × Nat) ⊕ (List C × List Int)
  | 0, l => .inr ([], l)
  | k + 1, l => match frameR n l with
    | .inl f => .inl f
    | .inr q => match framesR n k q.2 with
      | .inl f => .inl f
      | .inr t => .inr (q.1 :: t.1, t.2)

/-- the answer, the calls cs behind -/
def finR (n : Nat) (cs : List C) : (Int × Nat) ⊕ (List C × List Int) → List C × Int × Nat
  | .inl f => ([], f.1, f.2)
  | .inr t => if t.2 = [] then (cs ++ t.1, 0, 0) else ([], 9, n - t.2.length)

def headR (b : List Int) : Option (Int × Nat) :=
  if b.length < 7 then some (5, b.length)
  else if b.getD 0 0 ≠ 67 then some (2, 0)
  else if b.getD 1 0 ≠ 76 then some (2, 1)
  else if b.getD 2 0 ≠ 79 then some (2, 2)
  else if b.getD 3 0 ≠ 71 then some (2, 3)
  else if b.getD 4 0 ≠ 1 then some (3, 4)
  else if 1000 < b.getD 5 0 + 256 * b.getD 6 0 then some (4, 5)
  else none
def countR (b : List Int) : Nat := (b.getD 5 0 + 256 * b.getD 6 0).toNat
def decLog (b : List Int) : List C × Int × Nat := match headR b with
  | some f => ([], f.1, f.2)
  | none => finR b.length [] (framesR b.length (countR b) (b.drop 7))

/-- one step of the loop -/
theorem framesR_bad {n k : Nat} {l : List Int} {cs : List C} {f : Int × Nat} (h : frameR n l = .inl f) : finR n cs (framesR n (k + 1) l) = ([], f.1, f.2) := by
  simp only [framesR, h, finR]
theorem framesR_good {n k : Nat} {l r : List Int} {cs : List C} {c : C} (h : frameR n l = .inr (c, r)) : finR n cs (framesR n (k + 1) l) = finR n (cs ++ [c]) (framesR n k r) := by
  simp only [framesR, h]
  cases framesR n k r with
  | inl f => rfl
  | inr t => simp only [finR]; split <;> simp

/-! there and back -/
theorem piece_append {p : List Int} (hp : isPiece p) (r : List Int) : piece (p ++ r) = some (p, r) := by
  induction p with
  | nil => exact hp.elim
  | cons b t ih =>
    rcases hp with ⟨h1, rfl⟩ | ⟨h1, h2⟩
    · simp [piece, h1]
    · simp only [List.cons_append, piece, if_neg (show ¬ b < 128 by omega), ih h2, Option.map_some]
theorem pow10 : (128 : Nat) ^ 10 = 1180591620717411303424 := by decide
theorem read_varL {v : Int} (h : isU64 v) (r : List Int) : readF 0 0 (varL v ++ r) = some (v, r) := by
  obtain ⟨h0, h1⟩ := h
  have hp : isPiece (varL v) := piece_varF 9 (by rw [show 9 + 1 = 10 by omega, pow10]; omega)
  have hv : val (varL v) = v := val_varF 10 h0 (by rw [pow10]; omega)
  have ht : tight 0 (varL v) = true := tight_varF 9 0 (by omega) (by rw [show 9 + 1 = 10 by omega, pow10]; omega)
  rw [readF_piece, piece_append hp]
  simp only [Option.bind_some]
  rw [readP_eq hp (varL_ok h0), hv, if_pos ⟨by simp; omega, ht⟩]
  simp
theorem nums_vars {vs : List Int} (h : ∀ v ∈ vs, isU64 v) (r : List Int) : numsR vs.length (vs.flatMap varL ++ r) = some (vs, r) := by
  induction vs with
  | nil => simp [numsR]
  | cons v vs ih =>
    simp only [List.length_cons, numsR, List.flatMap_cons, List.append_assoc]
    rw [read_varL (h v (by simp))]
    simp only [Option.bind_some]
    rw [ih (fun x hx => h x (by simp [hx]))]
    simp
theorem bodyL_vars (c : C) : bodyL c = (c.arch :: c.nr :: c.args).flatMap varL := by simp [bodyL, argsB]
theorem callB_body {c : C} (h : c.ok) (h6 : c.args.length = 6) : callB (bodyL c) = some c := by
  have hall : ∀ v ∈ c.arch :: c.nr :: c.args, isU64 v := by
    intro v hv
    simp only [List.mem_cons] at hv
    obtain ⟨a, b, d, e, f⟩ := h
    rcases hv with rfl | rfl | hv
    · unfold isU64; omega
    · unfold isU64; omega
    · exact f v hv
  have := nums_vars hall []
  rw [List.append_nil, ← bodyL_vars] at this
  simp only [List.length_cons, h6] at this
  unfold callB numsL
  rw [this]
  simp only [Option.bind_some, if_true, callOf]
  obtain ⟨a, b, d, e, f⟩ := h
  simp [b, e]

theorem read_inv {l r : List Int} {v : Int} (hb : isBytes l) (h : readF 0 0 l = some (v, r)) : l = varL v ++ r ∧ isU64 v := by
  rw [readF_piece] at h
  cases hp : piece l with
  | none => rw [hp] at h; simp at h
  | some q =>
    obtain ⟨h1, e⟩ := piece_ok (p := q.1) (r := q.2) hp
    have hb1 : isBytes q.1 := fun x hx => hb x (by rw [e]; simp [hx])
    rw [hp] at h
    simp only [Option.bind_some] at h
    rw [← valueL_eq h1 hb1] at h
    unfold valueL at h
    split at h
    · rename_i h2
      simp at h
      obtain ⟨rfl, rfl⟩ := h
      rw [h2.2]
      exact ⟨e, Int.emod_nonneg _ (by omega), by have := Int.emod_lt_of_pos (val q.1) (show (0 : Int) < 18446744073709551616 by omega); omega⟩
    · simp at h
theorem nums_inv {n : Nat} {l r vs : List Int} (hb : isBytes l) (h : numsR n l = some (vs, r)) : l = vs.flatMap varL ++ r ∧ vs.length = n ∧ ∀ v ∈ vs, isU64 v := by
  induction n generalizing l vs with
  | zero => simp [numsR] at h; obtain ⟨rfl, rfl⟩ := h; simp
  | succ n ih =>
    unfold numsR at h
    cases hq : readF 0 0 l with
    | none => rw [hq] at h; simp at h
    | some q =>
      obtain ⟨e, hv⟩ := read_inv (v := q.1) (r := q.2) hb hq
      rw [hq] at h
      simp only [Option.bind_some] at h
      have hb2 : isBytes q.2 := fun x hx => hb x (by rw [e]; simp [hx])
      cases ht : numsR n q.2 with
      | none => rw [ht] at h; simp at h
      | some t =>
        rw [ht] at h
        simp at h
        obtain ⟨rfl, rfl⟩ := h
        obtain ⟨e2, h3, h4⟩ := ih (l := q.2) (vs := t.1) hb2 ht
        refine ⟨?_, by simp [h3], ?_⟩
        · conv => lhs; rw [e, e2]
          simp
        · intro v hx
          simp only [List.mem_cons] at hx
          rcases hx with rfl | hx
          · exact hv
          · exact h4 v hx
theorem callB_inv {b : List Int} {c : C} (hb : isBytes b) (h : callB b = some c) : bodyL c = b ∧ c.ok ∧ c.args.length = 6 := by
  unfold callB numsL at h
  cases ht : numsR 8 b with
  | none => rw [ht] at h; simp at h
  | some t =>
    rw [ht] at h
    simp only [Option.bind_some] at h
    obtain ⟨e, h3, h4⟩ := nums_inv (vs := t.1) (r := t.2) hb ht
    split at h
    · rename_i h0
      simp only [Option.bind_some, callOf] at h
      split at h
      · rename_i h5
        rw [h0, List.append_nil] at e
        match hm : t.1 with
        | [] => rw [hm] at h3; simp at h3
        | [_] => rw [hm] at h3; simp at h3
        | a :: n :: args =>
          rw [hm] at h h3 h4 h5 e
          simp at h h5
          subst h
          refine ⟨by rw [bodyL_vars, e], ⟨(h4 a (by simp)).1, h5.1, (h4 n (by simp)).1, h5.2, fun v hv => h4 v (by simp [hv])⟩, by simpa using h3⟩
      · simp at h
    · simp at h

theorem frameR_at {n : Nat} {c : C} (h : c.ok) (h6 : c.args.length = 6) (r : List Int) : frameR n (frameL (bodyL c) ++ r) = .inr (c, r) := by
  obtain ⟨l1, l2⟩ := bodyL_len h
  have hcb := callB_body h h6
  generalize bodyL c = B at *
  have e0 : (frameL B ++ r).getD 0 0 = (B.length : Int) := by simp [frameL]; omega
  have hne : frameL B ++ r ≠ [] := by simp [frameL]
  have hlen : (frameL B ++ r).length = B.length + 5 + r.length := by simp [frameL_len]
  unfold frameR
  rw [if_neg hne, e0, if_neg (by omega), Int.toNat_natCast, if_neg (by omega)]
  have eb : ((frameL B ++ r).drop 1).take B.length = B := by simp [frameL]
  have es : ((frameL B ++ r).drop (1 + B.length)).take 4 = littleL (sumL B) 4 := by
    rw [Nat.add_comm 1]
    simp [frameL, littleL_len]
  have er : (frameL B ++ r).drop (1 + B.length + 4) = r := by
    rw [show 1 + B.length + 4 = (frameL B).length by rw [frameL_len]; omega]
    simp
  rw [eb, es, if_neg (by simp), hcb, er]
theorem framesR_at {n : Nat} {cs : List C} (h : ∀ c ∈ cs, c.ok) (h6 : ∀ c ∈ cs, c.args.length = 6) (r : List Int) : framesR n cs.length (framesL cs ++ r) = .inr (cs, r) := by
  induction cs with
  | nil => simp [framesR, framesL]
  | cons c cs ih =>
    have e : framesL (c :: cs) ++ r = frameL (bodyL c) ++ (framesL cs ++ r) := by simp [framesL]
    rw [e, List.length_cons, framesR, frameR_at (h c (by simp)) (h6 c (by simp))]
    simp only [ih (fun x hx => h x (by simp [hx])) (fun x hx => h6 x (by simp [hx]))]

theorem logL_head {cs : List C} (hn : cs.length ≤ 1000) (t : List Int) (ht : (logL cs).length ≤ t.length ∨ 7 ≤ t.length) (ht7 : t.take 7 = (logL cs).take 7) : headR t = none ∧ countR t = cs.length := by
  have e7 : (logL cs).take 7 = [67, 76, 79, 71, 1, (cs.length : Int) % 256, (cs.length : Int) / 256 % 256] := by
    simp [logL, littleL]
  have hl : 7 ≤ t.length := by
    rcases ht with h | h
    · have : 7 ≤ (logL cs).length := by simp [logL, littleL_len]
      omega
    · exact h
  rw [e7] at ht7
  have g : ∀ i, i < 7 → t.getD i 0 = [67, 76, 79, 71, 1, (cs.length : Int) % 256, (cs.length : Int) / 256 % 256].getD i 0 := by
    intro i hi
    rw [← ht7]
    simp [List.getD_eq_getElem?_getD, hi]
  have g0 := g 0 (by omega); have g1 := g 1 (by omega); have g2 := g 2 (by omega); have g3 := g 3 (by omega)
  have g4 := g 4 (by omega); have g5 := g 5 (by omega); have g6 := g 6 (by omega)
  simp only [List.getD_cons_zero, List.getD_cons_succ] at g0 g1 g2 g3 g4 g5 g6
  unfold headR countR
  rw [g0, g1, g2, g3, g4, g5, g6]
  refine ⟨?_, by omega⟩
  rw [if_neg (by omega), if_neg (by omega), if_neg (by omega), if_neg (by omega), if_neg (by omega), if_neg (by omega), if_neg (by omega)]
theorem logL_drop (cs : List C) : (logL cs).drop 7 = framesL cs := by simp [logL, littleL]

/-- what is written is read as it was -/
theorem dec_enc {cs : List C} (h : ∀ c ∈ cs, c.ok) (h6 : ∀ c ∈ cs, c.args.length = 6) (hn : cs.length ≤ 1000) : decLog (logL cs) = (cs, 0, 0) := by
  obtain ⟨h1, h2⟩ := logL_head hn (logL cs) (.inl (Nat.le_refl _)) rfl
  unfold decLog
  rw [h1, h2, logL_drop]
  have := framesR_at (n := (logL cs).length) h h6 []
  rw [List.append_nil] at this
  simp only [this, finR]
  simp

/-- without its last byte it is short -/
theorem dec_short {cs : List C} (h : ∀ c ∈ cs, c.ok) (h6 : ∀ c ∈ cs, c.args.length = 6) (hn : cs.length ≤ 1000) : decLog ((logL cs).take ((logL cs).length - 1)) = ([], 5, (logL cs).length - 1) := by
  rcases List.eq_nil_or_concat cs with rfl | ⟨cs', c, rfl⟩
  · simp [decLog, headR, logL, framesL, littleL]
  · have hl : (logL (cs'.concat c)).length = 7 + (framesL cs').length + ((bodyL c).length + 5) := by
      simp [logL, framesL, littleL_len, frameL_len]; omega
    have ht : ((logL (cs'.concat c)).take ((logL (cs'.concat c)).length - 1)).length = (logL (cs'.concat c)).length - 1 := by simp
    have hd : ((logL (cs'.concat c)).take ((logL (cs'.concat c)).length - 1)).drop 7 = framesL cs' ++ (frameL (bodyL c)).take ((bodyL c).length + 4) := by
      rw [List.drop_take, logL_drop, hl]
      have e : framesL (cs'.concat c) = framesL cs' ++ frameL (bodyL c) := by simp [framesL]
      rw [e, List.take_append]
      have e2 : 7 + (framesL cs').length + ((bodyL c).length + 5) - 1 - 7 = (framesL cs').length + ((bodyL c).length + 4) := by omega
      rw [e2, List.take_of_length_le (by omega), Nat.add_sub_cancel_left]
    obtain ⟨h1, h2⟩ := logL_head hn ((logL (cs'.concat c)).take ((logL (cs'.concat c)).length - 1)) (.inr (by rw [ht, hl]; omega)) (by rw [List.take_take, Nat.min_eq_left (by rw [hl]; omega)])
    generalize hT : (logL (cs'.concat c)).take ((logL (cs'.concat c)).length - 1) = T at *
    unfold decLog
    rw [h1, h2, hd, ht]
    have hc := h c (by simp)
    have hb := bodyL_len hc
    have hc6 := h6 c (by simp)
    have hbad : ∀ n, frameR n ((frameL (bodyL c)).take ((bodyL c).length + 4)) = .inl (5, n) := by
      intro n
      generalize bodyL c = B at *
      have e0 : ((frameL B).take (B.length + 4)).getD 0 0 = (B.length : Int) := by simp [frameL]; omega
      have hne : (frameL B).take (B.length + 4) ≠ [] := by simp [frameL]
      have hlen : ((frameL B).take (B.length + 4)).length = B.length + 4 := by simp [frameL_len]
      unfold frameR
      rw [if_neg hne, e0, if_neg (by omega), Int.toNat_natCast, hlen, if_pos (by omega)]
    have key : ∀ (k : Nat) (ds : List C) (n : Nat) (r : List Int), (∀ c ∈ ds, c.ok) → (∀ c ∈ ds, c.args.length = 6) → frameR n r = .inl (5, n) → framesR n (ds.length + 1) (framesL ds ++ r) = .inl (5, n) := by
      intro k ds n r g1 g2 g3
      induction ds with
      | nil => simp [framesR, framesL, g3]
      | cons d ds ih =>
        have e : framesL (d :: ds) ++ r = frameL (bodyL d) ++ (framesL ds ++ r) := by simp [framesL]
        rw [e, List.length_cons, framesR, frameR_at (g1 d (by simp)) (g2 d (by simp))]
        simp only [ih (fun x hx => g1 x (by simp [hx])) (fun x hx => g2 x (by simp [hx]))]
    have hcl : (cs'.concat c).length = cs'.length + 1 := by simp
    rw [hcl, key 0 cs' _ _ (fun x hx => h x (by simp [hx])) (fun x hx => h6 x (by simp [hx])) (hbad _)]
    rfl

theorem getD_one {l : List Int} (h : 1 ≤ l.length) : l = l.getD 0 0 :: l.drop 1 := by
  cases l with
  | nil => simp at h
  | cons x t => simp
theorem frameR_inv {n : Nat} {l r : List Int} {c : C} (hb : isBytes l) (h : frameR n l = .inr (c, r)) : l = frameL (bodyL c) ++ r ∧ c.ok ∧ c.args.length = 6 := by
  unfold frameR at h
  split at h
  · cases h
  · split at h
    · cases h
    · split at h
      · cases h
      · split at h
        · cases h
        · rename_i h1 h2 h3 h4
          split at h
          · cases h
          · rename_i c' hc
            simp only [Sum.inr.injEq, Prod.mk.injEq] at h
            obtain ⟨rfl, rfl⟩ := h
            have hb0 : isBytes ((l.drop 1).take (l.getD 0 0).toNat) := fun x hx => hb x (List.mem_of_mem_drop (List.mem_of_mem_take hx))
            obtain ⟨e, hok, h6⟩ := callB_inv hb0 hc
            refine ⟨?_, hok, h6⟩
            rw [e]
            have hm : ((l.drop 1).take (l.getD 0 0).toNat).length = (l.getD 0 0).toNat := by rw [List.length_take, List.length_drop]; omega
            unfold frameL
            rw [hm]
            have hm1 : (((l.getD 0 0).toNat % 256 : Nat) : Int) = l.getD 0 0 := by omega
            rw [hm1]
            have h4' : littleL (sumL ((l.drop 1).take (l.getD 0 0).toNat)) 4 = (l.drop (1 + (l.getD 0 0).toNat)).take 4 := by
              by_cases hh : littleL (sumL ((l.drop 1).take (l.getD 0 0).toNat)) 4 = (l.drop (1 + (l.getD 0 0).toNat)).take 4
              · exact hh
              · exact absurd hh h4
            rw [h4']
            have hl1 : 1 ≤ l.length := by omega
            generalize (l.getD 0 0).toNat = m at *
            conv => lhs; rw [getD_one hl1]
            rw [List.append_assoc, List.append_assoc, List.singleton_append]
            congr 1
            have e1 : l.drop (1 + m) = (l.drop 1).drop m := by rw [List.drop_drop]
            have e2 : l.drop (1 + m + 4) = ((l.drop 1).drop m).drop 4 := by rw [List.drop_drop, List.drop_drop, Nat.add_assoc]
            rw [e1, e2, List.take_append_drop, List.take_append_drop]
theorem framesR_inv {n k : Nat} {l r : List Int} {cs : List C} (hb : isBytes l) (h : framesR n k l = .inr (cs, r)) : l = framesL cs ++ r ∧ cs.length = k ∧ (∀ c ∈ cs, c.ok) ∧ ∀ c ∈ cs, c.args.length = 6 := by
  induction k generalizing l cs with
  | zero => simp [framesR] at h; obtain ⟨rfl, rfl⟩ := h; simp [framesL]
  | succ k ih =>
    unfold framesR at h
    cases hf : frameR n l with
    | inl f => rw [hf] at h; simp at h
    | inr q =>
      rw [hf] at h
      obtain ⟨e, hok, h6⟩ := frameR_inv (c := q.1) (r := q.2) hb hf
      have hb2 : isBytes q.2 := fun x hx => hb x (by rw [e]; simp [hx])
      simp only at h
      cases ht : framesR n k q.2 with
      | inl f => rw [ht] at h; simp at h
      | inr t =>
        rw [ht] at h
        simp at h
        obtain ⟨rfl, rfl⟩ := h
        obtain ⟨e2, h3, h4, h5⟩ := ih (l := q.2) (cs := t.1) hb2 ht
        refine ⟨?_, by simp [h3], ?_, ?_⟩
        · conv => lhs; rw [e, e2]
          simp [framesL]
        · intro c hc
          simp only [List.mem_cons] at hc
          rcases hc with rfl | hc
          · exact hok
          · exact h4 c hc
        · intro c hc
          simp only [List.mem_cons] at hc
          rcases hc with rfl | hc
          · exact h6
          · exact h5 c hc

/-- what is read is written as it was -/
theorem enc_dec {b : List Int} {cs : List C} {at_ : Nat} (hb : isBytes b) (h : decLog b = (cs, 0, at_)) : logL cs = b ∧ at_ = 0 ∧ cs.length ≤ 1000 ∧ (∀ c ∈ cs, c.ok) ∧ ∀ c ∈ cs, c.args.length = 6 := by
  unfold decLog at h
  split at h
  · rename_i f hf
    exfalso
    simp only [Prod.mk.injEq] at h
    unfold headR at hf
    obtain ⟨_, h0, _⟩ := h
    repeat' split at hf
    all_goals first
      | (simp at hf; rw [← hf] at h0; simp at h0; done)
      | (simp at hf; done)
  · rename_i hf
    have hbd : isBytes (b.drop 7) := isBytes_drop hb 7
    cases ht : framesR b.length (countR b) (b.drop 7) with
    | inl f =>
      exfalso
      rw [ht] at h
      simp only [finR, Prod.mk.injEq] at h
      have key : ∀ (k n : Nat) (l : List Int) (f : Int × Nat), framesR n k l = .inl f → f.1 ≠ 0 := by
        intro k n
        induction k with
        | zero => intro l f h; simp [framesR] at h
        | succ k ih =>
          intro l f h
          unfold framesR at h
          cases hq : frameR n l with
          | inl g =>
            rw [hq] at h
            simp at h
            subst h
            unfold frameR at hq
            repeat' split at hq
            all_goals cases hq
            all_goals simp
          | inr q =>
            rw [hq] at h
            simp only at h
            cases ht : framesR n k q.2 with
            | inl g => rw [ht] at h; simp at h; subst h; exact ih _ _ ht
            | inr t => rw [ht] at h; simp at h
      exact key _ _ _ _ ht h.2.1
    | inr t =>
      rw [ht] at h
      obtain ⟨e, hk, hok, h6⟩ := framesR_inv (cs := t.1) (r := t.2) hbd ht
      simp only [finR] at h
      split at h
      · rename_i h0
        simp only [List.nil_append, Prod.mk.injEq] at h
        obtain ⟨rfl, _, rfl⟩ := h
        rw [h0, List.append_nil] at e
        unfold headR at hf
        split at hf
        · cases hf
        split at hf
        · cases hf
        split at hf
        · cases hf
        split at hf
        · cases hf
        split at hf
        · cases hf
        split at hf
        · cases hf
        split at hf
        · cases hf
        rename_i g7 g0 g1 g2 g3 g4 g5
        have b5 := isBytes_getD hb 5
        have b6 := isBytes_getD hb 6
        have hc : (t.1.length : Int) = b.getD 5 0 + 256 * b.getD 6 0 := by rw [hk]; unfold countR; omega
        refine ⟨?_, rfl, by omega, hok, h6⟩
        have e7 : b.take 7 = [67, 76, 79, 71, 1, b.getD 5 0, b.getD 6 0] := by
          match b, g7 with
          | x0 :: x1 :: x2 :: x3 :: x4 :: x5 :: x6 :: r, _ =>
            simp at g0 g1 g2 g3 g4 ⊢
            exact ⟨g0, g1, g2, g3, g4⟩
          | [], g | [_], g | [_, _], g | [_, _, _], g | [_, _, _, _], g | [_, _, _, _, _], g | [_, _, _, _, _, _], g => simp at g
        conv => rhs; rw [← List.take_append_drop 7 b, e, e7]
        unfold logL
        have el : littleL (t.1.length : Int) 2 = [b.getD 5 0, b.getD 6 0] := by
          simp only [littleL, List.cons.injEq, and_true]
          omega
        rw [el]
        simp
      · exfalso
        simp at h
theorem dec_none {b : List Int} {cs : List C} {code : Int} {at_ : Nat} (h : decLog b = (cs, code, at_)) (h0 : code ≠ 0) : cs = [] := by
  unfold decLog at h
  split at h
  · simp at h; exact h.1
  · cases ht : framesR b.length (countR b) (b.drop 7) with
    | inl f => rw [ht] at h; simp [finR] at h; exact h.1
    | inr t =>
      rw [ht] at h
      simp only [finR] at h
      split at h
      · simp at h; exact absurd h.2.1.symm h0
      · simp at h; exact h.1
end Go.Proofs.YtjbbiailhpkdeaaDoor
namespace Go.Proofs.YtjbbiailhpkdeaaDoor
open Go.RowKit
set_option linter.unusedVariables false

theorem wrapU64 (n : Int) : IntKind.u64.wrap n = n % 18446744073709551616 := by simp [IntKind.wrap, IntKind.bits, IntKind.signed]
theorem pow128 (k : Nat) : 128 ^ k = 2 ^ (7 * k) := by rw [Nat.pow_mul]
def shS (d k : Nat) : Nat := d * 2 ^ min (7 * k) 64 % 18446744073709551616
def shT (d k : Nat) : Nat := shS d k / 2 ^ min (7 * k) 64
theorem pow64 : (2 : Nat) ^ 64 = 18446744073709551616 := by decide
theorem sh_fit {d k : Nat} (h : d * 128 ^ k < 18446744073709551616) : shS d k = d * 128 ^ k ∧ shT d k = d := by
  unfold shT shS
  rw [pow128] at h ⊢
  by_cases hk : 7 * k ≤ 64
  · rw [Nat.min_eq_left hk, Nat.mod_eq_of_lt h]
    exact ⟨rfl, Nat.mul_div_cancel d (Nat.pow_pos (by decide))⟩
  · rw [Nat.min_eq_right (by omega)]
    have h1 : (2 : Nat) ^ 64 ≤ 2 ^ (7 * k) := Nat.pow_le_pow_right (by decide) (by omega)
    have hd : d = 0 := by
      rcases Nat.eq_zero_or_pos d with h0 | h0
      · exact h0
      · have := Nat.mul_le_mul h0 h1
        rw [pow64] at this
        omega
    subst hd
    simp
theorem sh_not {d k : Nat} (h : 18446744073709551616 ≤ d * 128 ^ k) : shT d k ≠ d := by
  unfold shT shS
  rw [pow128] at h
  intro e
  by_cases hk : 7 * k ≤ 64
  · rw [Nat.min_eq_left hk] at e
    have h1 := Nat.div_mul_le_self (d * 2 ^ (7 * k) % 18446744073709551616) (2 ^ (7 * k))
    rw [e] at h1
    have h2 : d * 2 ^ (7 * k) % 18446744073709551616 < 18446744073709551616 := Nat.mod_lt _ (by decide)
    omega
  · rw [Nat.min_eq_right (by omega), pow64, Nat.mul_mod_left] at e
    rw [Nat.zero_div] at e
    subst e
    simp at h
theorem or_digit {X d k : Nat} (hX : X < 128 ^ k) : X ||| d * 128 ^ k = X + d * 128 ^ k := by
  rw [pow128] at hX ⊢
  rw [Nat.or_comm, Nat.mul_comm, ← Nat.two_pow_add_eq_or_of_lt hX, Nat.add_comm]
theorem shl_run (d k : Nat) : Op.shift .shl .u64 (d : Int) .i64 (7 * (k : Int)) = pure (.int .u64 (shS d k : Int)) := by
  have e : (7 * (k : Int)).toNat = 7 * k := by omega
  rw [shift_shl_any _ _ _ _ (by omega), e]
  have : IntKind.u64.wrap ((d : Int) * 2 ^ min (7 * k) IntKind.u64.bits) = (shS d k : Int) := by
    have hb : IntKind.u64.bits = 64 := rfl
    have e2 : (d : Int) * 2 ^ min (7 * k) 64 = ((d * 2 ^ min (7 * k) 64 : Nat) : Int) := by push_cast; rfl
    rw [hb, wrapU64, e2]
    unfold shS
    generalize d * 2 ^ min (7 * k) 64 = n
    omega
  rw [this]
theorem shr_run (d k : Nat) : Op.shift .shr .u64 (shS d k : Int) .i64 (7 * (k : Int)) = pure (.int .u64 (shT d k : Int)) := by
  have e : (7 * (k : Int)).toNat = 7 * k := by omega
  rw [shift_shr_any _ _ _ _ (by omega), e]
  have : (shS d k : Int) / 2 ^ min (7 * k) IntKind.u64.bits = (shT d k : Int) := by
    have hb : IntKind.u64.bits = 64 := rfl
    rw [hb]
    unfold shT
    push_cast
    rfl
  rw [this]
theorem and127 : ∀ y : Fin 256, (y.val &&& 127) = y.val % 128 := by decide +kernel
theorem andNot128 (y : Nat) (h : y < 256) : IntKind.u64.wrap (bits .andNot .u8 (y : Int) 128) = ((y % 128 : Nat) : Int) := by
  have h1 := u8_andNot_nat y 128 h (by decide)
  have h2 : bits .andNot .u8 (y : Int) 128 = ((y &&& (255 - 128) : Nat) : Int) := h1
  have e := and127 ⟨y, h⟩
  simp only at e
  rw [h2, show 255 - 128 = 127 from rfl, e, wrapU64]
  omega
theorem or_run {X d k : Nat} (hX : X < 128 ^ k) (hX2 : X < 18446744073709551616) (h : d * 128 ^ k < 18446744073709551616) : bits .or .u64 (X : Int) ((d * 128 ^ k : Nat) : Int) = ((X + d * 128 ^ k : Nat) : Int) := by
  rw [u64_or_nat X _ hX2 h, or_digit hX]
theorem digit_next {X d k : Nat} (hX : X < 128 ^ k) (hd : d < 128) : X + d * 128 ^ k < 128 ^ (k + 1) := by
  rw [Nat.pow_succ]
  have : d * 128 ^ k ≤ 127 * 128 ^ k := Nat.mul_le_mul_right _ (by omega)
  omega
theorem or_fits {X d k : Nat} (hX : X < 128 ^ k) (hX2 : X < 18446744073709551616) (h : d * 128 ^ k < 18446744073709551616) : X + d * 128 ^ k < 18446744073709551616 := by
  rw [← or_digit hX]
  exact Nat.or_lt_two_pow (n := 64) hX2 h
/-- the reading's step, in natural numbers -/
theorem readF_step (k X y : Nat) (r : List Int) : readF k (X : Int) ((y : Int) :: r) = if 18446744073709551616 ≤ y % 128 * 128 ^ k then none else if y < 128 then (if y = 0 ∧ 0 < k then none else some (((X + y % 128 * 128 ^ k : Nat) : Int), r)) else readF (k + 1) ((X + y % 128 * 128 ^ k : Nat) : Int) r := by
  have e : (y : Int) % 128 * 128 ^ k = ((y % 128 * 128 ^ k : Nat) : Int) := by push_cast; rfl
  simp only [readF]
  rw [e]
  by_cases h1 : 18446744073709551616 ≤ y % 128 * 128 ^ k
  · rw [if_pos h1, if_pos (by omega)]
  · rw [if_neg h1, if_neg (by omega)]
    by_cases h2 : y < 128
    · rw [if_pos h2, if_pos (by omega)]
      by_cases h3 : y = 0 ∧ 0 < k
      · rw [if_pos h3, if_pos (by omega)]
      · rw [if_neg h3, if_neg (by omega)]
        push_cast
        rfl
    · rw [if_neg h2, if_neg (by omega)]
      congr 1
end Go.Proofs.YtjbbiailhpkdeaaDoor
