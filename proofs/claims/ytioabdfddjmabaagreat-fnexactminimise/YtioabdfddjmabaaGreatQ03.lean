/-
  MathB, MathD, MathS, MathN, MathE, PolS, Copy, PolT, MrkA
-/
import Derived.Test.YtioabdfddjmabaaGreatQ01
import Derived.Laws.BitsAllLaws
import Derived.Laws.Closers25b
import Derived.Test.YtioabdfddjmabaaGreatQ02
import Derived.Deep.OwnRows
import Derived.Deep.QuietTactic
import Derived.BigQuiet
import Derived.Deep.RegionWith
namespace Go.Proofs.YtioabdfddjmabaaGreat

/-- the n lowest bytes of v, the lowest first -/
def littleL : Int → Nat → List Int
  | _, 0 => []
  | v, n + 1 => v % 256 :: littleL (v / 256) n

theorem littleL_len (v : Int) (n : Nat) : (littleL v n).length = n := by
  induction n generalizing v with
  | zero => rfl
  | succ n ih => simp [littleL, ih]

theorem littleL_step {L l : List Int} {r : Int} {n k : Nat} (h : L = l ++ littleL r (n - k)) (hk : k < n) : L = (l ++ [r % 256]) ++ littleL (r / 256) (n - (k + 1)) := by
  have e : n - k = (n - (k + 1)) + 1 := by omega
  rw [h, e, littleL]; simp

/-- the bytes of one instruction -/
def encI (x : I) : List Int := littleL x.c 2 ++ [x.jt] ++ [x.jf] ++ littleL x.k 4
def encL (p : List I) : List Int := p.flatMap encI

theorem encI_len (x : I) : (encI x).length = 8 := by simp [encI, littleL_len]
theorem encL_len (p : List I) : (encL p).length = 8 * p.length := by
  induction p with
  | nil => rfl
  | cons x p ih => simp only [encL, List.flatMap_cons, List.length_append, encI_len, List.length_cons] at *; omega

theorem encL_take {p : List I} {k : Nat} (h : k < p.length) : encL (p.take (k + 1)) = encL (p.take k) ++ encI (p.getD k I.zero) := by
  unfold encL
  rw [List.take_succ_eq_append_getElem h, List.flatMap_append]
  simp [List.getElem?_eq_getElem h]
theorem encI_eq {x : I} (h : x.ok) : encI x = [x.c % 256, x.c / 256, x.jt, x.jf, x.k % 256, x.k / 256 % 256, x.k / 65536 % 256, x.k / 16777216] := by
  obtain ⟨h1, h2, h3, h4, h5, h6, h7, h8⟩ := h
  simp only [encI, littleL, List.cons_append, List.nil_append]
  rw [show x.c / 256 % 256 = x.c / 256 by omega, show x.k / 256 / 256 % 256 = x.k / 65536 % 256 by omega, show x.k / 256 / 256 / 256 % 256 = x.k / 16777216 by omega]
end Go.Proofs.YtioabdfddjmabaaGreat
namespace Go.Proofs.YtioabdfddjmabaaGreat

/-- the number whose bytes are given, the lowest first -/
def numL : List Int → Int
  | [] => 0
  | x :: t => x + 256 * numL t

def isBytes (l : List Int) : Prop := ∀ x ∈ l, 0 ≤ x ∧ x ≤ 255

theorem numL_bd {l : List Int} (h : isBytes l) : 0 ≤ numL l ∧ numL l < ((256 ^ l.length : Nat) : Int) := by
  induction l with
  | nil => simp [numL]
  | cons x t ih =>
    have hx := h x (by simp)
    have ht := ih (fun y hy => h y (by simp [hy]))
    simp only [numL, List.length_cons, Nat.pow_succ]
    omega

theorem numL_bd8 {l : List Int} (h : isBytes l) (hl : l.length ≤ 8) : 0 ≤ numL l ∧ numL l ≤ 18446744073709551615 := by
  have h1 := numL_bd h
  have h2 : 256 ^ l.length ≤ 256 ^ 8 := Nat.pow_le_pow_right (by omega) hl
  have h3 : 256 ^ 8 = 18446744073709551616 := by decide
  omega

theorem numL_drop {l : List Int} {k : Nat} (h : k < l.length) : numL (l.drop k) = l.getD k 0 + 256 * numL (l.drop (k + 1)) := by
  rw [List.drop_eq_getElem_cons h, numL, List.getD_eq_getElem?_getD, List.getElem?_eq_getElem h]; rfl

theorem isBytes_drop {l : List Int} (h : isBytes l) (k : Nat) : isBytes (l.drop k) := fun x hx => h x (List.mem_of_mem_drop hx)
theorem isBytes_getD {l : List Int} (h : isBytes l) (i : Nat) : 0 ≤ l.getD i 0 ∧ l.getD i 0 ≤ 255 := by
  by_cases hi : i < l.length
  · rw [List.getD_eq_getElem?_getD, List.getElem?_eq_getElem hi]; exact h _ (List.getElem_mem hi)
  · rw [List.getD_eq_getElem?_getD, List.getElem?_eq_none (by omega)]; simp

theorem join32 (i : Nat) (a b : Int) (h1 : 0 ≤ a) (h2 : a < 2 ^ i) (h3 : 0 ≤ b) (h4 : b % 2 ^ i = 0) (h5 : a < 4294967296) (h6 : b < 4294967296) : bits .or .u32 a b = a + b := by
  rw [u32_or a b h1 h5 h3 h6, Nat.or_comm]
  have e : (b.toNat ||| a.toNat) = b.toNat + a.toNat := by
    refine nat_join i _ _ ?_ ?_
    · have : ((b.toNat % 2 ^ i : Nat) : Int) = 0 := by rw [Int.natCast_emod, Int.toNat_of_nonneg h3, Int.natCast_pow]; exact h4
      omega
    · have : ((a.toNat : Nat) : Int) < ((2 ^ i : Nat) : Int) := by rw [Int.toNat_of_nonneg h1, Int.natCast_pow]; exact h2
      omega
  rw [e]; omega
theorem join16 (i : Nat) (a b : Int) (h1 : 0 ≤ a) (h2 : a < 2 ^ i) (h3 : 0 ≤ b) (h4 : b % 2 ^ i = 0) (h5 : a < 65536) (h6 : b < 65536) : bits .or .u16 a b = a + b := by
  rw [u16_or a b h1 h5 h3 h6, Nat.or_comm]
  have e : (b.toNat ||| a.toNat) = b.toNat + a.toNat := by
    refine nat_join i _ _ ?_ ?_
    · have : ((b.toNat % 2 ^ i : Nat) : Int) = 0 := by rw [Int.natCast_emod, Int.toNat_of_nonneg h3, Int.natCast_pow]; exact h4
      omega
    · have : ((a.toNat : Nat) : Int) < ((2 ^ i : Nat) : Int) := by rw [Int.toNat_of_nonneg h1, Int.natCast_pow]; exact h2
      omega
  rw [e]; omega

theorem word_bits (x0 x1 x2 x3 : Int) (h0 : 0 ≤ x0 ∧ x0 ≤ 255) (h1 : 0 ≤ x1 ∧ x1 ≤ 255) (h2 : 0 ≤ x2 ∧ x2 ≤ 255) (h3 : 0 ≤ x3 ∧ x3 ≤ 255) :
    bits .or .u32 (bits .or .u32 (bits .or .u32 x0 (x1 * 256)) (x2 * 65536)) (x3 * 16777216) = x0 + 256 * x1 + 65536 * x2 + 16777216 * x3 := by
  rw [join32 8 x0 (x1 * 256) h0.1 (by omega) (by omega) (by omega) (by omega) (by omega)]
  rw [join32 16 _ (x2 * 65536) (by omega) (by omega) (by omega) (by omega) (by omega) (by omega)]
  rw [join32 24 _ (x3 * 16777216) (by omega) (by omega) (by omega) (by omega) (by omega) (by omega)]
  omega
theorem half_bits (x0 x1 : Int) (h0 : 0 ≤ x0 ∧ x0 ≤ 255) (h1 : 0 ≤ x1 ∧ x1 ≤ 255) : bits .or .u16 x0 (x1 * 256) = x0 + 256 * x1 := by
  rw [join16 8 x0 (x1 * 256) h0.1 (by omega) (by omega) (by omega) (by omega) (by omega)]
  omega

/-- the instruction that begins at byte 8 i -/
def decI (l : List Int) (i : Nat) : I :=
  ⟨l.getD (i * 8) 0 + 256 * l.getD (i * 8 + 1) 0, l.getD (i * 8 + 2) 0, l.getD (i * 8 + 3) 0, l.getD (i * 8 + 4) 0 + 256 * l.getD (i * 8 + 5) 0 + 65536 * l.getD (i * 8 + 6) 0 + 16777216 * l.getD (i * 8 + 7) 0⟩
def decN (l : List Int) (k : Nat) : List I := (List.range k).map (decI l)
def decBad (l : List Int) : Bool := l.length % 8 != 0 || decide (32768 < l.length)
def decL (l : List Int) : List I := if decBad l then [] else decN l (l.length / 8)
def decC (l : List Int) : Int := if decBad l then 1 else 0

theorem decN_succ (l : List Int) (k : Nat) : decN l (k + 1) = decN l k ++ [decI l k] := by simp [decN, List.range_succ]
theorem decN_len (l : List Int) (k : Nat) : (decN l k).length = k := by simp [decN]
theorem decI_ok {l : List Int} (h : isBytes l) (i : Nat) : (decI l i).ok := by
  have b := fun j => isBytes_getD h j
  have b0 := b (i * 8); have b1 := b (i * 8 + 1); have b2 := b (i * 8 + 2); have b3 := b (i * 8 + 3)
  have b4 := b (i * 8 + 4); have b5 := b (i * 8 + 5); have b6 := b (i * 8 + 6); have b7 := b (i * 8 + 7)
  unfold decI I.ok
  simp only
  omega
theorem decL_ok {l : List Int} (h : isBytes l) : ∀ x ∈ decL l, x.ok := by
  intro x hx
  unfold decL at hx
  split at hx
  · simp at hx
  · simp only [decN, List.mem_map, List.mem_range] at hx
    obtain ⟨i, _, rfl⟩ := hx
    exact decI_ok h i
end Go.Proofs.YtioabdfddjmabaaGreat
namespace Go.Proofs.YtioabdfddjmabaaGreat

/-- one bit falls out of h and decides -/
def halfI (h : Int) : Int := if h % 2 = 1 then bits .xor .u32 (h / 2) 3988292384 else h / 2
def halfN : Nat → Int → Int
  | 0, h => h
  | n + 1, h => halfN n (halfI h)
/-- the checksum on its way, h so far -/
def sumF : Int → List Int → Int
  | h, [] => h
  | h, b :: r => sumF (halfN 8 (bits .xor .u32 h b)) r
def sumL (l : List Int) : Int := bits .xor .u32 (sumF 4294967295 l) 4294967295

theorem halfI_ok {h : Int} (h0 : 0 ≤ h) (h1 : h ≤ 4294967295) : 0 ≤ halfI h ∧ halfI h ≤ 4294967295 := by
  unfold halfI
  split
  · exact ⟨bits_lo_u32 _ _ _, bits_hi_u32 _ _ _⟩
  · omega
theorem halfN_ok (n : Nat) {h : Int} (h0 : 0 ≤ h) (h1 : h ≤ 4294967295) : 0 ≤ halfN n h ∧ halfN n h ≤ 4294967295 := by
  induction n generalizing h with
  | zero => exact ⟨h0, h1⟩
  | succ n ih => exact ih (halfI_ok h0 h1).1 (halfI_ok h0 h1).2
theorem sumL_ok (l : List Int) : 0 ≤ sumL l ∧ sumL l ≤ 4294967295 := ⟨bits_lo_u32 _ _ _, bits_hi_u32 _ _ _⟩

theorem halfN_step {X h : Int} {n : Nat} (e : X = halfN (n + 1) h) : X = halfN n (halfI h) := e
theorem sumF_step {X h : Int} {l : List Int} {k : Nat} (e : X = sumF h (l.drop k)) (hk : k < l.length) : X = sumF (halfN 8 (bits .xor .u32 h (l.getD k 0))) (l.drop (k + 1)) := by
  rw [List.drop_eq_getElem_cons hk] at e
  rw [e, List.getD_eq_getElem?_getD, List.getElem?_eq_getElem hk]
  rfl

/-- the lowest bit -/
theorem and1_u32 {h : Int} (h0 : 0 ≤ h) (h1 : h ≤ 4294967295) : bits .and .u32 h 1 = h % 2 := by
  rw [u32_and h 1 h0 (by omega) (by omega) (by omega)]
  have e : h.toNat &&& (1 : Int).toNat = h.toNat % 2 := Nat.and_two_pow_sub_one_eq_mod h.toNat 1
  rw [e]; omega
/-- the other bits -/
theorem not_u32 {h : Int} (h0 : 0 ≤ h) (h1 : h ≤ 4294967295) : bits .xor .u32 h 4294967295 = 4294967295 - h := by
  rw [u32_xor h 4294967295 h0 (by omega) (by omega) (by omega)]
  have h2 : h.toNat < 2 ^ 32 := by omega
  have e : h.toNat ^^^ (4294967295 : Int).toNat = 4294967295 - h.toNat := by
    have e1 : (BitVec.ofNat 32 h.toNat ^^^ BitVec.allOnes 32).toNat = (~~~ (BitVec.ofNat 32 h.toNat)).toNat := by rw [BitVec.xor_allOnes]
    rw [BitVec.toNat_xor, BitVec.toNat_not, BitVec.toNat_ofNat, Nat.mod_eq_of_lt h2, BitVec.toNat_allOnes] at e1
    simpa using e1
  rw [e]; omega
theorem not2_u32 {h : Int} (h0 : 0 ≤ h) (h1 : h ≤ 4294967295) : bits .xor .u32 IntKind.u32.max h = 4294967295 - h := by
  have e : IntKind.u32.max = 4294967295 := by decide
  rw [e, ← not_u32 h0 h1, u32_xor h 4294967295 h0 (by omega) (by omega) (by omega), u32_xor 4294967295 h (by omega) (by omega) h0 (by omega), Nat.xor_comm]
end Go.Proofs.YtioabdfddjmabaaGreat
namespace Go.Proofs.YtioabdfddjmabaaGreat
set_option linter.unusedVariables false

/-- one call: its numbers -/
structure C where
  arch : Int
  nr : Int
  args : List Int

def isU64 (v : Int) : Prop := 0 ≤ v ∧ v ≤ 18446744073709551615
def C.ok (x : C) : Prop := 0 ≤ x.arch ∧ x.arch ≤ 4294967295 ∧ 0 ≤ x.nr ∧ x.nr ≤ 4294967295 ∧ ∀ v ∈ x.args, isU64 v
def C.zero : C := ⟨0, 0, []⟩
theorem C.zero_ok : C.zero.ok := ⟨by decide, by decide, by decide, by decide, fun v h => by simp [C.zero] at h⟩

/-- a number in digits of seven bits, the lowest first, at most n of them -/
def varF : Nat → Int → List Int
  | 0, _ => []
  | n + 1, v => if v < 128 then [v] else (v % 128 + 128) :: varF n (v / 128)
def varL (v : Int) : List Int := varF 10 v

theorem varF_lo {n : Nat} {v : Int} (h : v < 128) : varF (n + 1) v = [v] := by simp [varF, h]
theorem varF_hi {n : Nat} {v : Int} (h : ¬ v < 128) : varF (n + 1) v = (v % 128 + 128) :: varF n (v / 128) := by simp [varF, h]
theorem varF_len (n : Nat) (v : Int) : (varF n v).length ≤ n := by
  induction n generalizing v with
  | zero => simp [varF]
  | succ n ih =>
    unfold varF
    split
    · simp
    · have := ih (v / 128); simp; exact this
theorem varF_pos (n : Nat) (v : Int) : 1 ≤ (varF (n + 1) v).length := by
  unfold varF
  split <;> simp
theorem varF_ok (n : Nat) {v : Int} (h : 0 ≤ v) : isBytes (varF n v) := by
  induction n generalizing v with
  | zero => intro x hx; simp [varF] at hx
  | succ n ih =>
    intro x hx
    unfold varF at hx
    split at hx
    · simp at hx; omega
    · simp only [List.mem_cons] at hx
      rcases hx with rfl | hx
      · omega
      · exact ih (by omega) x hx
/-- enough digits are enough -/
theorem varF_fit (n m : Nat) {v : Int} (h0 : 0 ≤ v) (h : v < ((128 ^ (n + 1) : Nat) : Int)) (h1 : n + 1 ≤ m) : varF m v = varF (n + 1) v := by
  induction n generalizing m v with
  | zero =>
    obtain ⟨m, rfl⟩ : ∃ m', m = m' + 1 := ⟨m - 1, by omega⟩
    have h2 : v < 128 := by simpa using h
    rw [varF_lo h2, varF_lo h2]
  | succ n ih =>
    obtain ⟨m, rfl⟩ : ∃ m', m = m' + 1 := ⟨m - 1, by omega⟩
    by_cases h2 : v < 128
    · rw [varF_lo h2, varF_lo h2]
    · rw [varF_hi h2, varF_hi h2, ih m (v := v / 128) (by omega) (by rw [Nat.pow_succ] at h; omega) (by omega)]
theorem varL_len (v : Int) : (varL v).length ≤ 10 := varF_len 10 v
theorem varL_len5 {v : Int} (h0 : 0 ≤ v) (h : v ≤ 4294967295) : (varL v).length ≤ 5 := by
  unfold varL
  rw [varF_fit 4 10 h0 (by have : 128 ^ 5 = 34359738368 := by decide
                           omega) (by omega)]
  exact varF_len 5 v
theorem varL_pos (v : Int) : 1 ≤ (varL v).length := varF_pos 9 v
theorem varL_ok {v : Int} (h : 0 ≤ v) : isBytes (varL v) := varF_ok 10 h

def argsB (l : List Int) : List Int := l.flatMap varL
def bodyL (c : C) : List Int := varL c.arch ++ varL c.nr ++ argsB c.args
theorem argsB_take {l : List Int} {k : Nat} (h : k < l.length) : argsB (l.take (k + 1)) = argsB (l.take k) ++ varL (l.getD k 0) := by
  unfold argsB
  rw [List.take_succ_eq_append_getElem h, List.flatMap_append]
  simp [List.getElem?_eq_getElem h]
theorem argsB_len (l : List Int) : l.length ≤ (argsB l).length ∧ (argsB l).length ≤ 10 * l.length := by
  induction l with
  | nil => simp [argsB]
  | cons x l ih =>
    have h1 := varL_len x
    have h2 := varL_pos x
    simp only [argsB, List.flatMap_cons, List.length_append, List.length_cons] at *
    omega
theorem bodyL_len {c : C} (h : c.ok) : c.args.length + 2 ≤ (bodyL c).length ∧ (bodyL c).length ≤ 10 + 10 * c.args.length := by
  obtain ⟨h1, h2, h3, h4, _⟩ := h
  have a := varL_len5 h1 h2
  have b := varL_len5 h3 h4
  have a' := varL_pos c.arch
  have b' := varL_pos c.nr
  have d := argsB_len c.args
  simp only [bodyL, List.length_append]
  omega
theorem argsB_ok {l : List Int} (h : ∀ v ∈ l, isU64 v) : isBytes (argsB l) := by
  intro x hx
  simp only [argsB, List.mem_flatMap] at hx
  obtain ⟨v, hv, hx⟩ := hx
  exact varL_ok (h v hv).1 x hx
theorem isBytes_append {l m : List Int} (h : isBytes l) (h' : isBytes m) : isBytes (l ++ m) := by
  intro x hx
  rcases List.mem_append.1 hx with hx | hx
  · exact h x hx
  · exact h' x hx
theorem bodyL_ok {c : C} (h : c.ok) : isBytes (bodyL c) :=
  isBytes_append (isBytes_append (varL_ok h.1) (varL_ok h.2.2.1)) (argsB_ok h.2.2.2.2)

def frameL (b : List Int) : List Int := [((b.length % 256 : Nat) : Int)] ++ b ++ littleL (sumL b) 4
theorem frameL_len (b : List Int) : (frameL b).length = b.length + 5 := by simp [frameL, littleL_len]
def framesL (cs : List C) : List Int := cs.flatMap fun c => frameL (bodyL c)
def logL (cs : List C) : List Int := [67, 76, 79, 71, 1] ++ littleL cs.length 2 ++ framesL cs
theorem framesL_take {cs : List C} {k : Nat} (h : k < cs.length) : framesL (cs.take (k + 1)) = framesL (cs.take k) ++ frameL (bodyL (cs.getD k C.zero)) := by
  unfold framesL
  rw [List.take_succ_eq_append_getElem h, List.flatMap_append]
  simp [List.getElem?_eq_getElem h]
def six (c : C) : Bool := c.args.length == 6
def callsOk (cs : List C) : Bool := decide (cs.length ≤ 1000) && cs.all six
def encLog (cs : List C) : List Int := if callsOk cs then logL cs else []
theorem framesL_len {cs : List C} (h : ∀ c ∈ cs, c.ok) (h6 : ∀ c ∈ cs, c.args.length = 6) : (framesL cs).length ≤ 75 * cs.length := by
  induction cs with
  | nil => simp [framesL]
  | cons c cs ih =>
    have h1 := bodyL_len (h c (by simp))
    have h2 := h6 c (by simp)
    have h3 := ih (fun x hx => h x (by simp [hx])) (fun x hx => h6 x (by simp [hx]))
    simp only [framesL, List.flatMap_cons, List.length_append, List.length_cons, frameL_len] at *
    omega
theorem logL_len {cs : List C} (h : ∀ c ∈ cs, c.ok) (h6 : ∀ c ∈ cs, c.args.length = 6) : (logL cs).length ≤ 7 + 75 * cs.length := by
  have := framesL_len h h6
  simp [logL, littleL_len]; omega

/-- the bytes of a record -/
def longsB (l : List Int) : List Int := l.flatMap fun v => littleL v 8
theorem longsB_take {l : List Int} {k : Nat} (h : k < l.length) : longsB (l.take (k + 1)) = longsB (l.take k) ++ littleL (l.getD k 0) 8 := by
  unfold longsB
  rw [List.take_succ_eq_append_getElem h, List.flatMap_append]
  simp [List.getElem?_eq_getElem h]
theorem longsB_len (l : List Int) : (longsB l).length = 8 * l.length := by
  induction l with
  | nil => rfl
  | cons x l ih => simp only [longsB, List.flatMap_cons, List.length_append, List.length_cons, littleL_len] at *; omega
def recB (c : C) (ip : Int) : List Int := if c.args.length = 6 then littleL c.nr 4 ++ littleL c.arch 4 ++ littleL ip 8 ++ longsB c.args else []

/-- four bytes at once, eight bytes at once -/
theorem little4_eq {v : Int} (h : 0 ≤ v) (h1 : v ≤ 4294967295) : littleL v 4 = [v % 256, v / 256 % 256, v / 65536 % 256, v / 16777216] := by
  simp only [littleL]
  rw [show v / 256 / 256 % 256 = v / 65536 % 256 by omega, show v / 256 / 256 / 256 % 256 = v / 16777216 by omega]
theorem little8_eq {v : Int} (h : 0 ≤ v) (h1 : v ≤ 18446744073709551615) : littleL v 8 = littleL (v % 4294967296) 4 ++ littleL (v / 4294967296) 4 := by
  simp only [littleL, List.cons_append, List.nil_append, List.cons.injEq, and_true]
  refine ⟨by omega, by omega, by omega, by omega, by omega, by omega, by omega, by omega⟩
end Go.Proofs.YtioabdfddjmabaaGreat
namespace Go.Proofs.YtioabdfddjmabaaGreat
set_option linter.unusedVariables false

/-- an entry: its two numbers and its rules -/
structure E where
  arch : Int
  nr : Int
  rules : List (List K)

def E.zero : E := ⟨0, 0, []⟩
def okR (r : List K) : Prop := ∀ c ∈ r, c.ok
def okRs (l : List (List K)) : Prop := ∀ r ∈ l, okR r
def E.ok (e : E) : Prop := (0 ≤ e.arch ∧ e.arch ≤ 4294967295) ∧ (0 ≤ e.nr ∧ e.nr ≤ 4294967295) ∧ okRs e.rules
def okP (p : List E) : Prop := ∀ e ∈ p, e.ok
theorem E.zero_ok : E.zero.ok := ⟨⟨by decide, by decide⟩, ⟨by decide, by decide⟩, fun r h => by simp [E.zero] at h⟩

theorem okR_at {r : List K} (h : okR r) (i : Nat) : (r.getD i K.zero).ok := by
  by_cases hi : i < r.length
  · rw [List.getD_eq_getElem?_getD, List.getElem?_eq_getElem hi]; exact h _ (List.getElem_mem hi)
  · rw [List.getD_eq_getElem?_getD, List.getElem?_eq_none (by omega)]; exact K.zero_ok
theorem okRs_at {l : List (List K)} (h : okRs l) (i : Nat) : okR (l.getD i []) := by
  by_cases hi : i < l.length
  · rw [List.getD_eq_getElem?_getD, List.getElem?_eq_getElem hi]; exact h _ (List.getElem_mem hi)
  · rw [List.getD_eq_getElem?_getD, List.getElem?_eq_none (by omega)]; intro c hc; simp at hc
theorem okP_at {p : List E} (h : okP p) (i : Nat) : (p.getD i E.zero).ok := by
  by_cases hi : i < p.length
  · rw [List.getD_eq_getElem?_getD, List.getElem?_eq_getElem hi]; exact h _ (List.getElem_mem hi)
  · rw [List.getD_eq_getElem?_getD, List.getElem?_eq_none (by omega)]; exact E.zero_ok

def validR (r : List K) : Bool := r.length == 6 && r.all validK
def validE (e : E) : Bool := decide (1 ≤ e.rules.length) && decide (e.rules.length ≤ 200) && e.rules.all validR
def befE (a b : E) : Bool := decide (a.arch < b.arch) || (a.arch == b.arch && decide (a.nr < b.nr))
def stepOk (p : List E) (i : Nat) : Bool := (i == 0 || befE (p.getD (i - 1) E.zero) (p.getD i E.zero)) && validE (p.getD i E.zero)
def totalR : List E → Nat
  | [] => 0
  | e :: p => e.rules.length + totalR p
def validP (p : List E) : Bool := (List.range p.length).all (stepOk p) && decide (totalR p ≤ 1000)

theorem all_getD {α : Type} (d : α) (f : α → Bool) (l : List α) : l.all f = true ↔ ∀ i, i < l.length → f (l.getD i d) = true := by
  rw [List.all_eq_true]
  constructor
  · intro h i hi
    rw [List.getD_eq_getElem?_getD, List.getElem?_eq_getElem hi]; exact h _ (List.getElem_mem hi)
  · intro h x hx
    obtain ⟨i, hi, rfl⟩ := List.getElem_of_mem hx
    have := h i hi
    rw [List.getD_eq_getElem?_getD, List.getElem?_eq_getElem hi] at this; exact this
theorem all_no {α : Type} {d : α} {f : α → Bool} {l : List α} {i : Nat} (hi : i < l.length) (h : f (l.getD i d) = false) : l.all f = false := by
  cases hc : l.all f with
  | false => rfl
  | true => rw [(all_getD d f l).1 hc i hi] at h; exact absurd h (by decide)
theorem any_getD {α : Type} (d : α) (f : α → Bool) (l : List α) : l.any f = true ↔ ∃ i, i < l.length ∧ f (l.getD i d) = true := by
  rw [List.any_eq_true]
  constructor
  · rintro ⟨x, hx, h⟩
    obtain ⟨i, hi, rfl⟩ := List.getElem_of_mem hx
    exact ⟨i, hi, by rw [List.getD_eq_getElem?_getD, List.getElem?_eq_getElem hi]; exact h⟩
  · rintro ⟨i, hi, h⟩
    rw [List.getD_eq_getElem?_getD, List.getElem?_eq_getElem hi] at h
    exact ⟨_, List.getElem_mem hi, h⟩
theorem any_no {α : Type} {d : α} {f : α → Bool} {l : List α} (h : ∀ i, i < l.length → f (l.getD i d) = false) : l.any f = false := by
  cases hc : l.any f with
  | false => rfl
  | true =>
    obtain ⟨i, hi, h1⟩ := (any_getD d f l).1 hc
    rw [h i hi] at h1; exact absurd h1 (by decide)

theorem validP_no {p : List E} {i : Nat} (hi : i < p.length) (h : stepOk p i = false) : validP p = false := by
  have : (List.range p.length).all (stepOk p) = false := by
    cases hc : (List.range p.length).all (stepOk p) with
    | false => rfl
    | true =>
      rw [List.all_eq_true] at hc
      rw [hc i (List.mem_range.2 hi)] at h; exact absurd h (by decide)
  rw [validP, this, Bool.false_and]
theorem validP_yes {p : List E} (h : ∀ i, i < p.length → stepOk p i = true) : validP p = decide (totalR p ≤ 1000) := by
  have : (List.range p.length).all (stepOk p) = true := by
    rw [List.all_eq_true]; intro i hi; exact h i (List.mem_range.1 hi)
  rw [validP, this, Bool.true_and]
theorem validP_step {p : List E} (h : validP p = true) {i : Nat} (hi : i < p.length) : stepOk p i = true := by
  rw [validP, Bool.and_eq_true, List.all_eq_true] at h
  exact h.1 i (List.mem_range.2 hi)
theorem totalR_append (p q : List E) : totalR (p ++ q) = totalR p + totalR q := by
  induction p with
  | nil => simp [totalR]
  | cons e p ih => simp only [List.cons_append, totalR, ih]; omega
theorem totalR_take {p : List E} {k : Nat} (h : k < p.length) : totalR (p.take (k + 1)) = totalR (p.take k) + (p.getD k E.zero).rules.length := by
  have e : p.take (k + 1) = p.take k ++ [p.getD k E.zero] := by
    rw [List.take_add_one, List.getElem?_eq_getElem h, List.getD_eq_getElem?_getD, List.getElem?_eq_getElem h]; rfl
  rw [e, totalR_append]; simp [totalR]

/-- entries of a valid policy come in order -/
theorem befE_trans {a b c : E} (h : befE a b = true) (h' : befE b c = true) : befE a c = true := by
  simp only [befE, Bool.or_eq_true, Bool.and_eq_true, decide_eq_true_eq, beq_iff_eq] at *
  omega
theorem befE_of_valid {p : List E} (h : validP p = true) : ∀ {i j : Nat}, i < j → j < p.length → befE (p.getD i E.zero) (p.getD j E.zero) = true := by
  intro i j hij hj
  obtain ⟨m, rfl⟩ : ∃ m, j = i + 1 + m := ⟨j - (i + 1), by omega⟩
  clear hij
  have step : ∀ k, k + 1 < p.length → befE (p.getD k E.zero) (p.getD (k + 1) E.zero) = true := fun k hk => by
    have := validP_step h hk
    rw [stepOk, Bool.and_eq_true, Bool.or_eq_true] at this
    rcases this.1 with h1 | h1
    · simp at h1
    · exact h1
  induction m with
  | zero => exact step i hj
  | succ m ih =>
    exact befE_trans (ih (by omega)) (step (i + 1 + m) hj)

def ruleHolds (r : List K) (args : List Int) : Bool := (List.range 6).all fun i => holdsK (r.getD i K.zero) (args.getD i 0).toNat
def meets (e : E) (c : C) : Bool := e.arch == c.arch && e.nr == c.nr
def allowsP (p : List E) (c : C) : Bool := validP p && (c.args.length == 6) && p.any fun e => meets e c && e.rules.any fun r => ruleHolds r c.args

theorem meets_once {p : List E} {c : C} (h : validP p = true) {i j : Nat} (hi : i < p.length) (hj : j < p.length) (m1 : meets (p.getD i E.zero) c = true) (m2 : meets (p.getD j E.zero) c = true) : i = j := by
  have key : ∀ {i j : Nat}, i < j → j < p.length → meets (p.getD i E.zero) c = true → meets (p.getD j E.zero) c = true → False := by
    intro i j hij hj m1 m2
    have hb := befE_of_valid h hij hj
    simp only [befE, meets, Bool.or_eq_true, Bool.and_eq_true, decide_eq_true_eq, beq_iff_eq] at *
    omega
  rcases Nat.lt_trichotomy i j with h1 | h1 | h1
  · exact (key h1 hj m1 m2).elim
  · exact h1
  · exact (key h1 hi m2 m1).elim
theorem allows_first {p : List E} {c : C} (h : validP p = true) {i : Nat} (hi : i < p.length) (hm : meets (p.getD i E.zero) c = true) :
    (p.any fun e => meets e c && e.rules.any fun r => ruleHolds r c.args) = (p.getD i E.zero).rules.any fun r => ruleHolds r c.args := by
  rw [Bool.eq_iff_iff, any_getD E.zero]
  constructor
  · rintro ⟨j, hj, h1⟩
    rw [Bool.and_eq_true] at h1
    have := meets_once h hi hj hm h1.1
    subst this
    exact h1.2
  · intro h1
    exact ⟨i, hi, by rw [hm, Bool.true_and]; exact h1⟩
theorem ruleHolds_no {r : List K} {args : List Int} {i : Nat} (hi : i < 6) (h : holdsK (r.getD i K.zero) (args.getD i 0).toNat = false) : ruleHolds r args = false := by
  cases hc : ruleHolds r args with
  | false => rfl
  | true =>
    rw [ruleHolds, List.all_eq_true] at hc
    rw [hc i (List.mem_range.2 hi)] at h; exact absurd h (by decide)
theorem ruleHolds_yes {r : List K} {args : List Int} (h : ∀ i, i < 6 → holdsK (r.getD i K.zero) (args.getD i 0).toNat = true) : ruleHolds r args = true := by
  rw [ruleHolds, List.all_eq_true]; intro i hi; exact h i (List.mem_range.1 hi)
end Go.Proofs.YtioabdfddjmabaaGreat
namespace Go.Proofs.YtioabdfddjmabaaGreat
open Go.RowKit
set_option linter.unusedVariables false

/-- elements of k cells each, one behind another -/
def LAt {α : Type} (k : Nat) (P : World → Nat → Nat → α → Prop) (w : World) (b o : Nat) (l : List α) : Prop := ∀ i (h : i < l.length), P w b (o + i * k) l[i]
/-- a slice of them: empty, or at an address -/
def LSrc {α : Type} (k : Nat) (P : World → Nat → Nat → α → Prop) (w : World) (a : Option Addr) (l : List α) : Prop := l = [] ∨ ∃ b o, a = some ⟨b, o, none⟩ ∧ b < w.heap.size ∧ LAt k P w b o l
/-- it stays where what was there is left alone -/
def Stays {α : Type} (P : World → Nat → Nat → α → Prop) : Prop := ∀ w w' b o x, b < w.heap.size → Below w.heap.size w w' → P w b o x → P w' b o x

theorem LSrc.below {α : Type} {k : Nat} {P : World → Nat → Nat → α → Prop} (hP : Stays P) {w w' : World} {a : Option Addr} {l : List α} (h : LSrc k P w a l) (hb : Below w.heap.size w w') : LSrc k P w' a l := by
  rcases h with h | ⟨b, o, ha, hlt, hc⟩
  · exact .inl h
  · exact .inr ⟨b, o, ha, Nat.lt_of_lt_of_le hlt hb.size, fun i hi => hP _ _ _ _ _ hlt hb (hc i hi)⟩

def PK (w : World) (b o : Nat) (c : K) : Prop := w.cell? ⟨b, o, none⟩ = some (.int .i64 c.kind) ∧ w.cell? ⟨b, o + 1, none⟩ = some (.int .u64 (c.a : Int)) ∧ w.cell? ⟨b, o + 2, none⟩ = some (.int .u64 (c.b : Int))
def PR (w : World) (b o : Nat) (r : List K) : Prop := ∃ a cap, w.cell? ⟨b, o, none⟩ = some (.slice a r.length cap) ∧ LSrc 3 PK w a r
def PE (w : World) (b o : Nat) (e : E) : Prop := w.cell? ⟨b, o, none⟩ = some (.int .u32 e.arch) ∧ w.cell? ⟨b, o + 1, none⟩ = some (.int .u32 e.nr) ∧ ∃ a cap, w.cell? ⟨b, o + 2, none⟩ = some (.slice a e.rules.length cap) ∧ LSrc 1 PR w a e.rules

theorem PK.stays : Stays PK := fun w w' b o x hlt hb ⟨h0, h1, h2⟩ => ⟨(hb.cell (p := ⟨b, _, none⟩) hlt).trans h0, (hb.cell (p := ⟨b, _, none⟩) hlt).trans h1, (hb.cell (p := ⟨b, _, none⟩) hlt).trans h2⟩
theorem PR.stays : Stays PR := fun w w' b o x hlt hb ⟨a, cap, h0, h1⟩ => ⟨a, cap, (hb.cell (p := ⟨b, _, none⟩) hlt).trans h0, h1.below PK.stays hb⟩
theorem PE.stays : Stays PE := fun w w' b o x hlt hb ⟨h0, h1, a, cap, h2, h3⟩ => ⟨(hb.cell (p := ⟨b, _, none⟩) hlt).trans h0, (hb.cell (p := ⟨b, _, none⟩) hlt).trans h1, a, cap, (hb.cell (p := ⟨b, _, none⟩) hlt).trans h2, h3.below PR.stays hb⟩

theorem LSrc.at {α : Type} {k : Nat} {P : World → Nat → Nat → α → Prop} {w : World} {a : Option Addr} {l : List α} (h : LSrc k P w a l) {i : Nat} (hi : i < l.length) (d : α) : ∃ b o, a = some ⟨b, o, none⟩ ∧ b < w.heap.size ∧ P w b (o + i * k) (l.getD i d) := by
  rcases h with rfl | ⟨b, o, h1, h2, h3⟩
  · simp at hi
  · refine ⟨b, o, h1, h2, ?_⟩
    rw [List.getD_eq_getElem?_getD, List.getElem?_eq_getElem hi]
    exact h3 i hi
theorem LSrc.addr {α : Type} {k : Nat} {P : World → Nat → Nat → α → Prop} {w : World} {a : Option Addr} {l : List α} (h : LSrc k P w a l) (hn : l ≠ []) : ∃ b o, a = some ⟨b, o, none⟩ ∧ b < w.heap.size ∧ LAt k P w b o l := by
  rcases h with h | h
  · exact absurd h hn
  · exact h
theorem LAt.get {α : Type} {k : Nat} {P : World → Nat → Nat → α → Prop} {w : World} {b o : Nat} {l : List α} (h : LAt k P w b o l) {i : Nat} (hi : i < l.length) (d : α) : P w b (o + i * k) (l.getD i d) := by
  rw [List.getD_eq_getElem?_getD, List.getElem?_eq_getElem hi]; exact h i hi
theorem LAt.below {α : Type} {k : Nat} {P : World → Nat → Nat → α → Prop} (hP : Stays P) {w w' : World} {b o : Nat} {l : List α} (h : LAt k P w b o l) (hlt : b < w.heap.size) (hb : Below w.heap.size w w') : LAt k P w' b o l := fun i hi => hP _ _ _ _ _ hlt hb (h i hi)

/-- one cell's box -/
theorem box1 (w : World) (t : TypeId) (x : Value) : (w.alloc (.cells #[x] t)).cell? ⟨w.heap.size, 0, none⟩ = some x := by simp

set_option maxRecDepth 100000 in
set_option maxHeartbeats 2000000 in
theorem ruleOK_any (r : List K) (a : Option Addr) (cap : Nat) (w : World) (hs : LSrc 3 PK w a r) (ho : okR r) (hn : r.length ≤ 16777216) :
    Calls Tryz.prog 21 #[.agg #[.slice a r.length cap]] w fun e w' => e = .returned (.bool (validR r)) ∧ Below w.heap.size w w' := by
  by_cases h6 : r.length = 6
  · have HC : Hid (∀ i w, Calls Tryz.prog 26 #[conV (r.getD i K.zero)] w fun e w' => e = .returned (.bool (validK (r.getD i K.zero))) ∧ Below w.heap.size w w') := fun i w => l3conOK_any _ w (okR_at ho i)
    have HY : Hid ((∀ i, i < 6 → validK (r.getD i K.zero) = true) → validR r = true) := fun h => by
      rw [validR, h6]; simp only [beq_self_eq_true, Bool.true_and]
      exact (all_getD K.zero validK r).2 (fun i hi => h i (by omega))
    have HF : Hid (∀ i, i < 6 → validK (r.getD i K.zero) = false → validR r = false) := fun i hi h => by
      rw [validR, all_no (d := K.zero) (by omega : i < r.length) h, Bool.and_false]
    obtain ⟨b, o, rfl, hlt, hp⟩ := hs.addr (by intro e; rw [e] at h6; simp at h6)
    have HP : Hid (∀ wr, Below w.heap.size w wr → ∀ i, i < 6 → PK wr b (o + i * 3) (r.getD i K.zero)) := fun wr hB i hi => PK.stays _ _ _ _ _ hlt hB (hp.get (by omega) K.zero)
    rw [h6]
    obtain ⟨V, hV⟩ : ∃ V, validR r = V := ⟨_, rfl⟩
    rw [hV] at HY HF ⊢
    clear hV hs hp h6 hn
    have B : Below w.heap.size w (w.alloc (.cells #[.slice (some ⟨b, o, none⟩) 6 cap] 44)) := (Below.refl _ _).alloc (Nat.le_refl _) _
    have x0 := box1 w 44 (.slice (some ⟨b, o, none⟩) 6 cap)
    go_enter Tryz.func21, Tryz.ntmps21
    go_wp2_with fail
    go_loopw [3] (fun i wr => ∃ k : Nat, k ≤ 6 ∧ i = .int .i64 k ∧ Hid (∀ j, j < k → validK (r.getD j K.zero) = true) ∧ wr.cell? ⟨w.heap.size, 0, none⟩ = some (.slice (some ⟨b, o, none⟩) 6 cap) ∧ Below w.heap.size w wr) (fun i _ => 6 - (intOf i).toNat)
    case atStart => exact ⟨0, by omega, rfl, fun j hj => by omega, x0, B⟩
    case round =>
      clear B x0
      obtain ⟨k, hk, rfl, HJ, x0, B⟩ := hrel
      by_cases hk6 : k < 6
      · obtain ⟨c0, c1, c2⟩ := HP.out wr B k hk6
        have HC1 : Hid (∀ w, Calls Tryz.prog 26 #[conV (r.getD k K.zero)] w fun e w' => e = .returned (.bool (validK (r.getD k K.zero))) ∧ Below w.heap.size w w') := HC.out k
        have HF1 : Hid (validK (r.getD k K.zero) = false → V = false) := HF.out k hk6
        have HJ1 : Hid (validK (r.getD k K.zero) = true → ∀ j, j < k + 1 → validK (r.getD j K.zero) = true) := fun h j hj => by
          by_cases hjk : j = k
          · subst hjk; exact h
          · exact HJ.out j (by omega)
        have hk6' : (k : Int) < 6 := by omega
        generalize r.getD k K.zero = c at *
        obtain ⟨ck, ca, cb⟩ := c
        simp only at c0 c1 c2
        simp only [conV] at HC1
        generalize validK ⟨ck, ca, cb⟩ = Q at *
        clear HC HF HP HJ
        go_wp2_with fail
        refine (HC1.out _).mono ?_
        rintro _ w1 ⟨rfl, hb1⟩
        have B1 := below_step hb1 B
        have x1 := cell_step hb1 x0
        clear hb1 x0 c0 c1 c2
        cases Q with
        | false =>
          have hVf : V = false := HF1.out (by first | rfl | trivial)
          subst hVf
          go_wp2
          go_ret
          exact ⟨rfl, B1⟩
        | true =>
          have HJ2 : Hid (∀ j, j < k + 1 → validK (r.getD j K.zero) = true) := HJ1.out (by first | rfl | trivial)
          go_wp2
          go_roundw
          case rel => exact ⟨k + 1, by omega, by go_num, HJ2, x1, B1⟩
          case measure => simp [intOf]; omega
      · have hk' : k = 6 := by omega
        subst hk'
        have hVt : V = true := HY.out HJ.out
        subst hVt
        go_wp2
        go_ret
        exact ⟨rfl, B⟩
  · have hV : validR r = false := by rw [validR]; simp [h6]
    rw [hV]
    have B : Below w.heap.size w (w.alloc (.cells #[.slice a r.length cap] 44)) := (Below.refl _ _).alloc (Nat.le_refl _) _
    have e6 : ((r.length : Int) != 6) = true := by rw [bne_iff_ne]; omega
    clear hs ho hV h6
    generalize r.length = n at *
    go_enter Tryz.func21, Tryz.ntmps21
    go_wp2
    go_ret
    exact ⟨rfl, B⟩
end Go.Proofs.YtioabdfddjmabaaGreat
namespace Go.Proofs.YtioabdfddjmabaaGreat
open Go.RowKit
set_option linter.unusedVariables false

/-- the cells of a program in a row, one behind another -/
def insF (p : List I) (j : Nat) : Value :=
  if j % 4 = 0 then .int .u16 (p.getD (j / 4) I.zero).c
  else if j % 4 = 1 then .int .u8 (p.getD (j / 4) I.zero).jt
  else if j % 4 = 2 then .int .u8 (p.getD (j / 4) I.zero).jf
  else .int .u32 (p.getD (j / 4) I.zero).k

theorem insF_0 (p : List I) (i : Nat) : insF p (i * 4) = .int .u16 (p.getD i I.zero).c := by
  unfold insF; rw [if_pos (by omega), show i * 4 / 4 = i by omega]
theorem insF_1 (p : List I) (i : Nat) : insF p (i * 4 + 1) = .int .u8 (p.getD i I.zero).jt := by
  unfold insF; rw [if_neg (by omega), if_pos (by omega), show (i * 4 + 1) / 4 = i by omega]
theorem insF_2 (p : List I) (i : Nat) : insF p (i * 4 + 2) = .int .u8 (p.getD i I.zero).jf := by
  unfold insF; rw [if_neg (by omega), if_neg (by omega), if_pos (by omega), show (i * 4 + 2) / 4 = i by omega]
theorem insF_3 (p : List I) (i : Nat) : insF p (i * 4 + 3) = .int .u32 (p.getD i I.zero).k := by
  unfold insF; rw [if_neg (by omega), if_neg (by omega), if_neg (by omega), show (i * 4 + 3) / 4 = i by omega]

/-- a program that came in, or was made: nil or empty, or at an address -/
def Src (w : World) (a : Option Addr) (p : List I) : Prop := p = [] ∨ ∃ b o, a = some ⟨b, o, none⟩ ∧ b < w.heap.size ∧ InsAt w b o p

theorem Src.below {w w' : World} {a : Option Addr} {p : List I} (h : Src w a p) (hb : Below w.heap.size w w') : Src w' a p := by
  rcases h with h | ⟨b, o, ha, hlt, hc⟩
  · exact .inl h
  · refine .inr ⟨b, o, ha, Nat.lt_of_lt_of_le hlt hb.size, fun i hi => ?_⟩
    obtain ⟨c0, c1, c2, c3⟩ := hc i hi
    exact ⟨(hb.cell (p := ⟨b, _, none⟩) hlt).trans c0, (hb.cell (p := ⟨b, _, none⟩) hlt).trans c1, (hb.cell (p := ⟨b, _, none⟩) hlt).trans c2, (hb.cell (p := ⟨b, _, none⟩) hlt).trans c3⟩

theorem Src.of_row {w : World} {D t : Nat} {p : List I} (h : w.rowIs D t (p.length * 4) (insF p)) : Src w (some ⟨D, 0, none⟩) p := by
  refine .inr ⟨D, 0, rfl, h.lt, fun i hi => ?_⟩
  refine ⟨?_, ?_, ?_, ?_⟩
  · rw [Nat.zero_add, h.cell (by omega), insF_0]
  · rw [Nat.zero_add, h.cell (by omega), insF_1]
  · rw [Nat.zero_add, h.cell (by omega), insF_2]
  · rw [Nat.zero_add, h.cell (by omega), insF_3]

/-- the cells up to number 4 k are the program's -/
def Upto (w : World) (D t n : Nat) (p : List I) (k : Nat) : Prop := ∃ f, w.rowIs D t (n * 4) f ∧ ∀ j, j < k * 4 → f j = insF p j

theorem Upto.step {w : World} {D t n k : Nat} {p : List I} (h : Upto w D t n p k) :
    Upto ((((w.setCell ⟨D, k * 4, none⟩ (.int .u16 (p.getD k I.zero).c)).setCell ⟨D, k * 4 + 1, none⟩ (.int .u8 (p.getD k I.zero).jt)).setCell ⟨D, k * 4 + 2, none⟩ (.int .u8 (p.getD k I.zero).jf)).setCell ⟨D, k * 4 + 3, none⟩ (.int .u32 (p.getD k I.zero).k)) D t n p (k + 1) := by
  obtain ⟨f, hr, hf⟩ := h
  refine ⟨_, (((hr.set _ _).set _ _).set _ _).set _ _, fun j hj => ?_⟩
  by_cases e3 : j = k * 4 + 3
  · rw [if_pos e3, e3, insF_3]
  · rw [if_neg e3]
    by_cases e2 : j = k * 4 + 2
    · rw [if_pos e2, e2, insF_2]
    · rw [if_neg e2]
      by_cases e1 : j = k * 4 + 1
      · rw [if_pos e1, e1, insF_1]
      · rw [if_neg e1]
        by_cases e0 : j = k * 4
        · rw [if_pos e0, e0, insF_0]
        · rw [if_neg e0]; exact hf j (by omega)

theorem Upto.own {w : World} {D t n k : Nat} {p : List I} (h : Upto w D t n p k) (j : Nat) (hj : j < n * 4) : ∃ v, w.cell? ⟨D, j, none⟩ = some v ∧ w.frozen? ⟨D, j, none⟩ = false := by
  obtain ⟨f, hr, _⟩ := h
  exact ⟨_, hr.cell hj, hr.frozen j⟩

theorem Upto.done {w : World} {D t n : Nat} {p : List I} (h : Upto w D t n p n) : w.rowIs D t (n * 4) (insF p) := by
  obtain ⟨f, hr, hf⟩ := h
  exact hr.congr hf

theorem Upto.keep {w w' : World} {D t n k : Nat} {p : List I} (h : Upto w D t n p k) (hb : Below w.heap.size w w') : Upto w' D t n p k := by
  obtain ⟨f, hr, hf⟩ := h
  exact ⟨f, hr.of_block (hb.block D hr.lt), hf⟩

end Go.Proofs.YtioabdfddjmabaaGreat
namespace Go.Proofs.YtioabdfddjmabaaGreat
open Go.RowKit
set_option linter.unusedVariables false

/-- a slice whose row lies in a block from L on -/
def LSrcG {α : Type} (L k : Nat) (P : World → Nat → Nat → α → Prop) (w : World) (a : Option Addr) (l : List α) : Prop := l = [] ∨ ∃ b o, a = some ⟨b, o, none⟩ ∧ L ≤ b ∧ b < w.heap.size ∧ LAt k P w b o l
/-- a condition in cells that may be written -/
def PKF (w : World) (b o : Nat) (c : K) : Prop := PK w b o c ∧ w.frozen? ⟨b, o, none⟩ = false ∧ w.frozen? ⟨b, o + 1, none⟩ = false ∧ w.frozen? ⟨b, o + 2, none⟩ = false
theorem PKF.stays : Stays PKF := fun w w' b o x hlt hb ⟨h0, h1, h2, h3⟩ => ⟨PK.stays _ _ _ _ _ hlt hb h0, (hb.frozen (p := ⟨b, _, none⟩) hlt).trans h1, (hb.frozen (p := ⟨b, _, none⟩) hlt).trans h2, (hb.frozen (p := ⟨b, _, none⟩) hlt).trans h3⟩
def PRG (L : Nat) (w : World) (b o : Nat) (r : List K) : Prop := ∃ a cap, w.cell? ⟨b, o, none⟩ = some (.slice a r.length cap) ∧ LSrcG L 3 PKF w a r
def PEG (L : Nat) (w : World) (b o : Nat) (e : E) : Prop := w.cell? ⟨b, o, none⟩ = some (.int .u32 e.arch) ∧ w.cell? ⟨b, o + 1, none⟩ = some (.int .u32 e.nr) ∧ (w.frozen? ⟨b, o, none⟩ = false ∧ w.frozen? ⟨b, o + 1, none⟩ = false) ∧ ∃ a cap, w.cell? ⟨b, o + 2, none⟩ = some (.slice a e.rules.length cap) ∧ LSrcG L 1 (PRG L) w a e.rules

theorem LSrcG.plain {α : Type} {L k : Nat} {P Q : World → Nat → Nat → α → Prop} {w : World} {a : Option Addr} {l : List α} (h : LSrcG L k P w a l) (hPQ : ∀ b o x, P w b o x → Q w b o x) : LSrc k Q w a l := by
  rcases h with h | ⟨b, o, h1, _, h2, h3⟩
  · exact .inl h
  · exact .inr ⟨b, o, h1, h2, fun i hi => hPQ _ _ _ (h3 i hi)⟩
theorem PRG.plain {L : Nat} {w : World} {b o : Nat} {r : List K} (h : PRG L w b o r) : PR w b o r := by
  obtain ⟨a, cap, h0, h1⟩ := h
  exact ⟨a, cap, h0, h1.plain fun _ _ _ h => h.1⟩
theorem PEG.plain {L : Nat} {w : World} {b o : Nat} {e : E} (h : PEG L w b o e) : PE w b o e := by
  obtain ⟨h0, h1, _, a, cap, h2, h3⟩ := h
  exact ⟨h0, h1, a, cap, h2, h3.plain fun _ _ _ h => h.plain⟩
theorem LSrcG.below {α : Type} {L k : Nat} {P : World → Nat → Nat → α → Prop} (hP : Stays P) {w w' : World} {a : Option Addr} {l : List α} (h : LSrcG L k P w a l) (hb : Below w.heap.size w w') : LSrcG L k P w' a l := by
  rcases h with h | ⟨b, o, ha, hL, hlt, hc⟩
  · exact .inl h
  · exact .inr ⟨b, o, ha, hL, Nat.lt_of_lt_of_le hlt hb.size, fun i hi => hP _ _ _ _ _ hlt hb (hc i hi)⟩
theorem PRG.stays (L : Nat) : Stays (PRG L) := fun w w' b o x hlt hb ⟨a, cap, h0, h1⟩ => ⟨a, cap, (hb.cell (p := ⟨b, _, none⟩) hlt).trans h0, h1.below PKF.stays hb⟩
theorem PEG.stays (L : Nat) : Stays (PEG L) := fun w w' b o x hlt hb ⟨h0, h1, f, a, cap, h2, h3⟩ => ⟨(hb.cell (p := ⟨b, _, none⟩) hlt).trans h0, (hb.cell (p := ⟨b, _, none⟩) hlt).trans h1, ⟨(hb.frozen (p := ⟨b, _, none⟩) hlt).trans f.1, (hb.frozen (p := ⟨b, _, none⟩) hlt).trans f.2⟩, a, cap, (hb.cell (p := ⟨b, _, none⟩) hlt).trans h2, h3.below (PRG.stays L) hb⟩
theorem LSrcG.mono {α : Type} {L L' k : Nat} {P Q : World → Nat → Nat → α → Prop} {w : World} {a : Option Addr} {l : List α} (h : LSrcG L k P w a l) (hL : L' ≤ L) (hPQ : ∀ b o x, P w b o x → Q w b o x) : LSrcG L' k Q w a l := by
  rcases h with h | ⟨b, o, h1, h4, h2, h3⟩
  · exact .inl h
  · exact .inr ⟨b, o, h1, Nat.le_trans hL h4, h2, fun i hi => hPQ _ _ _ (h3 i hi)⟩
theorem PRG.mono {L L' : Nat} {w : World} {b o : Nat} {r : List K} (h : PRG L w b o r) (hL : L' ≤ L) : PRG L' w b o r := by
  obtain ⟨a, cap, h0, h1⟩ := h
  exact ⟨a, cap, h0, h1.mono hL fun _ _ _ h => h⟩
theorem PEG.mono {L L' : Nat} {w : World} {b o : Nat} {e : E} (h : PEG L w b o e) (hL : L' ≤ L) : PEG L' w b o e := by
  obtain ⟨h0, h1, f, a, cap, h2, h3⟩ := h
  exact ⟨h0, h1, f, a, cap, h2, h3.mono hL fun _ _ _ h => h.mono hL⟩

/-- a store into another block -/
theorem cell_far {w : World} {D i b o : Nat} {v x : Value} (hne : D ≠ b) (h : w.cell? ⟨b, o, none⟩ = some x) : (w.setCell ⟨D, i, none⟩ v).cell? ⟨b, o, none⟩ = some x := by
  have e : (w.setCell ⟨D, i, none⟩ v).cell? ⟨b, o, none⟩ = w.cell? ⟨b, o, none⟩ := by
    apply World.cell?_setCell_other
    intro e; apply hne; injection e
  rw [e]; exact h
/-- a store into another cell of the block -/
theorem cell_near {w : World} {D i o : Nat} {v x : Value} (hne : i ≠ o) (h : w.cell? ⟨D, o, none⟩ = some x) : (w.setCell ⟨D, i, none⟩ v).cell? ⟨D, o, none⟩ = some x := by
  have e : (w.setCell ⟨D, i, none⟩ v).cell? ⟨D, o, none⟩ = w.cell? ⟨D, o, none⟩ := by
    apply World.cell?_setCell_other
    intro e; apply hne; injection e
  rw [e]; exact h
theorem PK.far {w : World} {D i b o : Nat} {v : Value} {c : K} (hne : D ≠ b) (h : PK w b o c) : PK (w.setCell ⟨D, i, none⟩ v) b o c := ⟨cell_far hne h.1, cell_far hne h.2.1, cell_far hne h.2.2⟩
theorem frz_set {w : World} {D i : Nat} {v : Value} {p : Addr} (h : w.frozen? p = false) : (w.setCell ⟨D, i, none⟩ v).frozen? p = false := by simp [h]
theorem PKF.far {w : World} {D i b o : Nat} {v : Value} {c : K} (hne : D ≠ b) (h : PKF w b o c) : PKF (w.setCell ⟨D, i, none⟩ v) b o c := ⟨h.1.far hne, frz_set h.2.1, frz_set h.2.2.1, frz_set h.2.2.2⟩
theorem LSrcG.far {α : Type} {L k D i : Nat} {v : Value} {P : World → Nat → Nat → α → Prop} {w : World} {a : Option Addr} {l : List α} (h : LSrcG L k P w a l) (hP : ∀ b o x, L ≤ b → P w b o x → P (w.setCell ⟨D, i, none⟩ v) b o x) : LSrcG L k P (w.setCell ⟨D, i, none⟩ v) a l := by
  rcases h with h | ⟨b, o, h1, h4, h2, h3⟩
  · exact .inl h
  · exact .inr ⟨b, o, h1, h4, by simp; exact h2, fun j hj => hP _ _ _ h4 (h3 j hj)⟩
theorem PRG.far {L D i b o : Nat} {v : Value} {w : World} {r : List K} (hD : D < L) (hne : D ≠ b) (h : PRG L w b o r) : PRG L (w.setCell ⟨D, i, none⟩ v) b o r := by
  obtain ⟨a, cap, h0, h1⟩ := h
  exact ⟨a, cap, cell_far hne h0, h1.far fun b o x hL hx => hx.far (by omega)⟩
theorem PRG.rules_far {L D i : Nat} {v : Value} {w : World} {a : Option Addr} {l : List (List K)} (hD : D < L) (h : LSrcG L 1 (PRG L) w a l) : LSrcG L 1 (PRG L) (w.setCell ⟨D, i, none⟩ v) a l := h.far fun b o x hL hx => hx.far hD (by omega)

/-- an element of the row D is left alone by a store into another element -/
def Apart {α : Type} (sz D : Nat) (P : World → Nat → Nat → α → Prop) : Prop := ∀ w o x c v, P w D o x → (c < o ∨ o + sz ≤ c) → P (w.setCell ⟨D, c, none⟩ v) D o x
theorem PK.apart (D : Nat) : Apart 3 D PK := fun w o x c v h hc => ⟨cell_near (by omega) h.1, cell_near (by omega) h.2.1, cell_near (by omega) h.2.2⟩
theorem PRG.apart (D : Nat) : Apart 1 D (PRG (D + 1)) := fun w o x c v h hc => by
  obtain ⟨a, cap, h0, h1⟩ := h
  exact ⟨a, cap, cell_near (by omega) h0, h1.far fun b o x hL hx => hx.far (by omega)⟩
theorem PEG.apart (D : Nat) : Apart 3 D (PEG (D + 1)) := fun w o x c v h hc => by
  obtain ⟨h0, h1, f, a, cap, h2, h3⟩ := h
  exact ⟨cell_near (by omega) h0, cell_near (by omega) h1, ⟨frz_set f.1, frz_set f.2⟩, a, cap, cell_near (by omega) h2, PRG.rules_far (by omega) h3⟩

/-- a row of N elements of which the first k are laid -/
structure Upt {α : Type} (sz : Nat) (P : World → Nat → Nat → α → Prop) (w : World) (D N : Nat) (l : List α) (d : α) (k : Nat) : Prop where
  lt : D < w.heap.size
  own : ∀ c, c < N * sz → (∃ v, w.cell? ⟨D, c, none⟩ = some v) ∧ w.frozen? ⟨D, c, none⟩ = false
  el : ∀ j, j < k → P w D (j * sz) (l.getD j d)
theorem Upt.keep {α : Type} {sz : Nat} {P : World → Nat → Nat → α → Prop} (hP : Stays P) {w w' : World} {D N : Nat} {l : List α} {d : α} {k : Nat} (h : Upt sz P w D N l d k) (hb : Below w.heap.size w w') : Upt sz P w' D N l d k :=
  ⟨Nat.lt_of_lt_of_le h.lt hb.size, fun c hc => ⟨by obtain ⟨v, hv⟩ := (h.own c hc).1; exact ⟨v, (hb.cell (p := ⟨D, c, none⟩) h.lt).trans hv⟩, (hb.frozen (p := ⟨D, c, none⟩) h.lt).trans (h.own c hc).2⟩, fun j hj => hP _ _ _ _ _ h.lt hb (h.el j hj)⟩
theorem Upt.set {α : Type} {sz D : Nat} {P : World → Nat → Nat → α → Prop} (hA : Apart sz D P) {w : World} {N : Nat} {l : List α} {d : α} {k c : Nat} (h : Upt sz P w D N l d k) (hc : k * sz ≤ c) (v : Value) : Upt sz P (w.setCell ⟨D, c, none⟩ v) D N l d k := by
  refine ⟨by simp; exact h.lt, fun i hi => ?_, fun j hj => hA _ _ _ _ _ (h.el j hj) (.inr ?_)⟩
  · obtain ⟨⟨u, hu⟩, hf⟩ := h.own i hi
    refine ⟨?_, by simp [hf]⟩
    by_cases e : c = i
    · subst e; exact ⟨v, World.cell?_setCell_same' w _ v (by rw [hu]; rfl)⟩
    · exact ⟨u, cell_near e hu⟩
  · have : (j + 1) * sz ≤ k * sz := Nat.mul_le_mul_right _ hj
    rw [Nat.add_mul] at this; omega
theorem Upt.next {α : Type} {sz D : Nat} {P : World → Nat → Nat → α → Prop} {w : World} {N : Nat} {l : List α} {d : α} {k : Nat} (h : Upt sz P w D N l d k) (hk : P w D (k * sz) (l.getD k d)) : Upt sz P w D N l d (k + 1) :=
  ⟨h.lt, h.own, fun j hj => by
    by_cases e : j = k
    · subst e; exact hk
    · exact h.el j (by omega)⟩
theorem Upt.new {α : Type} {sz : Nat} {P : World → Nat → Nat → α → Prop} (w : World) (cs : Array Value) (t : TypeId) (N : Nat) (l : List α) (d : α) (hs : cs.size = N * sz) : Upt sz P (w.alloc (.cells cs t)) w.heap.size N l d 0 := by
  have hr := World.rowIs_alloc w cs t (fun i => cs.getD i undef) (fun i h => by simp [h])
  rw [hs] at hr
  exact ⟨hr.lt, fun c hc => ⟨⟨_, hr.cell hc⟩, hr.frozen c⟩, fun j hj => by omega⟩
theorem Upt.all {α : Type} {sz : Nat} {P : World → Nat → Nat → α → Prop} {w : World} {D : Nat} {l : List α} {d : α} {N : Nat} (h : Upt sz P w D N l d l.length) : LAt sz P w D 0 l := fun i hi => by
  have := h.el i hi
  rw [List.getD_eq_getElem?_getD, List.getElem?_eq_getElem hi] at this
  rw [Nat.zero_add]; exact this
end Go.Proofs.YtioabdfddjmabaaGreat
namespace Go.Proofs.YtioabdfddjmabaaGreat
open Go.RowKit
set_option linter.unusedVariables false

abbrev AdK := Addr × IntKind
/-- what cells hold when k, k + 1, .. are written at the addresses, one after another -/
def after : List AdK → Int → (Addr → Option Value) → Addr → Option Value
  | [], _, f => f
  | x :: A, k, f => after A (k + 1) (fun q => if q = x.1 then some (.int x.2 k) else f q)
theorem after_append (A B : List AdK) (k : Int) (f : Addr → Option Value) : after (A ++ B) k f = after B (k + A.length) (after A k f) := by
  induction A generalizing k f with
  | nil => simp [after]
  | cons x A ih =>
    simp only [List.cons_append, after, List.length_cons]
    rw [ih]
    congr 1
    omega
theorem after_out {A : List AdK} {k : Int} {f : Addr → Option Value} {q : Addr} (h : ∀ x ∈ A, x.1 ≠ q) : after A k f q = f q := by
  induction A generalizing k f with
  | nil => rfl
  | cons x A ih =>
    rw [after, ih (fun y hy => h y (by simp [hy])), if_neg (fun e => h x (by simp) e.symm)]
theorem after_get {A : List AdK} {k : Int} {f : Addr → Option Value} (hn : (A.map Prod.fst).Nodup) {j : Nat} (hj : j < A.length) : after A k f A[j].1 = some (.int A[j].2 (k + j)) := by
  induction A generalizing k f j with
  | nil => simp at hj
  | cons x A ih =>
    rw [List.map_cons, List.nodup_cons] at hn
    cases j with
    | zero =>
      simp only [List.getElem_cons_zero, after]
      rw [after_out (fun y hy e => hn.1 (by rw [← e]; exact List.mem_map_of_mem hy)), if_pos rfl]
      simp
    | succ j =>
      simp only [List.getElem_cons_succ, after]
      rw [ih hn.2 (by simpa using hj)]
      congr 2
      push_cast
      omega
/-- numbers lie there, free to be written -/
def IntsAt (w : World) (A : List AdK) : Prop := ∀ x ∈ A, (∃ n, w.cell? x.1 = some (.int x.2 n)) ∧ w.frozen? x.1 = false
/-- numbers stay numbers, slices stay as they are -/
structure Sim (w w' : World) : Prop where
  ints : ∀ p t n, w.cell? p = some (.int t n) → ∃ m, w'.cell? p = some (.int t m)
  rows : ∀ p a n c, w.cell? p = some (.slice a n c) → w'.cell? p = some (.slice a n c)
  frozen : ∀ p, w'.frozen? p = w.frozen? p
theorem Sim.refl (w : World) : Sim w w := ⟨fun p t n h => ⟨n, h⟩, fun p a n c h => h, fun p => rfl⟩
theorem IntsAt.sim {w w' : World} {A : List AdK} (h : IntsAt w A) (s : Sim w w') : IntsAt w' A := fun x hx => by
  obtain ⟨⟨n, h1⟩, h2⟩ := h x hx
  exact ⟨s.ints _ _ _ h1, (s.frozen _).trans h2⟩
/-- k, k + 1, .. were written at the addresses -/
structure Wrote (w w' : World) (A : List AdK) (k : Int) : Prop where
  cell : ∀ p, w'.cell? p = after A k w.cell? p
  sim : Sim w w'
  size : w'.heap.size = w.heap.size
  below : ∀ L, (∀ x ∈ A, L ≤ x.1.block) → Below L w w'
  block : ∀ b, (∀ x ∈ A, x.1.block ≠ b) → w'.heap[b]? = w.heap[b]?
theorem Wrote.refl (w : World) (k : Int) : Wrote w w [] k := ⟨fun p => rfl, Sim.refl w, rfl, fun L _ => Below.refl _ _, fun b _ => rfl⟩
theorem Wrote.drew {w w' : World} {A : List AdK} {k : Int} (h : Wrote w w' A k) : Wrote w w'.drew A k := ⟨h.cell, ⟨h.sim.ints, h.sim.rows, h.sim.frozen⟩, h.size, fun L hL => (h.below L hL).drew, h.block⟩
theorem Sim.set {w : World} {p : Addr} {t : IntKind} {n m : Int} (h : w.cell? p = some (.int t n)) : Sim w (w.setCell p (.int t m)) := by
  refine ⟨fun q t' n' h' => ?_, fun q a n' c h' => ?_, fun q => by simp⟩
  · by_cases e : p = q
    · subst e
      rw [h] at h'
      cases h'
      exact ⟨m, World.cell?_setCell_same' _ _ _ (by rw [h]; rfl)⟩
    · exact ⟨n', (World.cell?_setCell_other _ _ _ _ e).trans h'⟩
  · have e : p ≠ q := fun e => by rw [← e, h] at h'; cases h'
    exact (World.cell?_setCell_other _ _ _ _ e).trans h'
theorem Sim.trans {a b c : World} (h : Sim a b) (h' : Sim b c) : Sim a c :=
  ⟨fun p t n e => by obtain ⟨m, e1⟩ := h.ints p t n e; exact h'.ints p t m e1, fun p x n cc e => h'.rows _ _ _ _ (h.rows _ _ _ _ e), fun p => (h'.frozen p).trans (h.frozen p)⟩
theorem Wrote.trans {a b c : World} {A B : List AdK} {k : Int} {k' : Int} (h : Wrote a b A k) (h' : Wrote b c B k') (hk : k' = k + A.length) : Wrote a c (A ++ B) k := by
  subst hk
  refine ⟨fun p => ?_, h.sim.trans h'.sim, h'.size.trans h.size, fun L hL => ?_, fun bk hb => ?_⟩
  · rw [h'.cell p, after_append]
    congr 1
    funext q
    exact h.cell q
  · exact (h.below L fun x hx => hL x (by simp [hx])).trans (h'.below L fun x hx => hL x (by simp [hx]))
  · exact (h'.block bk fun x hx => hb x (by simp [hx])).trans (h.block bk fun x hx => hb x (by simp [hx]))
theorem Wrote.one {w : World} {b o : Nat} {t : IntKind} {n k : Int} (h : w.cell? ⟨b, o, none⟩ = some (.int t n)) : Wrote w (w.setCell ⟨b, o, none⟩ (.int t k)) [(⟨b, o, none⟩, t)] k := by
  refine ⟨fun p => ?_, Sim.set h, by simp, fun L hL => (Below.refl _ _).setCell (p := ⟨b, o, none⟩) (hL (⟨b, o, none⟩, t) (by simp)) _, fun c hc => ?_⟩
  · simp only [after]
    by_cases e : p = ⟨b, o, none⟩
    · subst e
      rw [if_pos rfl, World.cell?_setCell_same' _ _ _ (by rw [h]; rfl)]
    · rw [if_neg e]; exact World.cell?_setCell_other _ _ _ _ (fun q => e q.symm)
  · have := hc (⟨b, o, none⟩, t) (by simp)
    simp only [World.setCell, Array.getElem?_modify]; rw [if_neg this]
/-- k, k + 1, .. stand at the addresses -/
def HeldA (w : World) (A : List AdK) (k : Int) : Prop := ∀ j (h : j < A.length), w.cell? A[j].1 = some (.int A[j].2 (k + j))
theorem Wrote.held {w w' : World} {A : List AdK} {k : Int} (h : Wrote w w' A k) (hn : (A.map Prod.fst).Nodup) : HeldA w' A k := fun j hj => by
  rw [h.cell, after_get hn hj]
theorem HeldA.below {w w' : World} {A : List AdK} {k : Int} (h : HeldA w A k) (hb : Below w.heap.size w w') : HeldA w' A k := fun j hj => by
  have hc := h j hj
  have hl : A[j].1.block < w.heap.size := by
    simp only [World.cell?] at hc
    by_cases e : A[j].1.block < w.heap.size
    · exact e
    · rw [Array.getElem?_eq_none (by omega)] at hc; cases hc
  rw [hb.cell hl]; exact hc
theorem HeldA.left {w : World} {A B : List AdK} {k : Int} (h : HeldA w (A ++ B) k) : HeldA w A k := fun j hj => by
  have := h j (by rw [List.length_append]; omega)
  rw [List.getElem_append_left hj] at this; exact this
theorem HeldA.right {w : World} {A B : List AdK} {k k' : Int} (h : HeldA w (A ++ B) k) (hk : k' = k + A.length) : HeldA w B k' := fun j hj => by
  subst hk
  have := h (A.length + j) (by rw [List.length_append]; omega)
  rw [List.getElem_append_right (by omega)] at this
  simp only [Nat.add_sub_cancel_left] at this
  rw [this]
  congr 2
  push_cast
  omega

/-! the addresses -/
def a3 (b o : Nat) : List AdK := [(⟨b, o, none⟩, .i64), (⟨b, o + 1, none⟩, .u64), (⟨b, o + 2, none⟩, .u64)]
def conA (b o : Nat) (n : Nat) : List AdK := (List.range n).flatMap fun j => a3 b (o + j * 3)
theorem flat_succ {α : Type} (f : Nat → List α) (n : Nat) : (List.range (n + 1)).flatMap f = (List.range n).flatMap f ++ f n := by
  rw [List.range_succ, List.flatMap_append]; simp
theorem conA_succ (b o n : Nat) : conA b o (n + 1) = conA b o n ++ a3 b (o + n * 3) := flat_succ _ n
theorem conA_len (b o : Nat) : ∀ n, (conA b o n).length = n * 3
  | 0 => rfl
  | n + 1 => by rw [conA_succ, List.length_append, conA_len]; simp [a3]; omega
/-- the conditions of a slice -/
def SK (w : World) (a : Option Addr) (n : Nat) (A : List AdK) : Prop := (n = 0 ∧ A = []) ∨ ∃ b o, a = some ⟨b, o, none⟩ ∧ A = conA b o n ∧ IntsAt w A
/-- the rules of a slice -/
def SR (w : World) (a : Option Addr) (n : Nat) (A : List AdK) : Prop := n ≤ 1048576 ∧ ((n = 0 ∧ A = []) ∨ ∃ b o, a = some ⟨b, o, none⟩ ∧ ∃ F : Nat → List AdK, A = (List.range n).flatMap F ∧ ∀ i, i < n → ∃ a' n' c', w.cell? ⟨b, o + i, none⟩ = some (.slice a' n' c') ∧ SK w a' n' (F i))
def a2 (b o : Nat) : List AdK := [(⟨b, o, none⟩, .u32), (⟨b, o + 1, none⟩, .u32)]
/-- the entries of a slice -/
def SE (w : World) (a : Option Addr) (n : Nat) (A : List AdK) : Prop := n ≤ 1048576 ∧ ((n = 0 ∧ A = []) ∨ ∃ b o, a = some ⟨b, o, none⟩ ∧ ∃ F : Nat → List AdK, A = ((List.range n).flatMap fun i => a2 b (o + i * 3) ++ F i) ∧ ∀ i, i < n → IntsAt w (a2 b (o + i * 3)) ∧ ∃ a' n' c', w.cell? ⟨b, o + i * 3 + 2, none⟩ = some (.slice a' n' c') ∧ SR w a' n' (F i))
theorem SK.sim {w w' : World} {a : Option Addr} {n : Nat} {A : List AdK} (h : SK w a n A) (s : Sim w w') : SK w' a n A := by
  rcases h with h | ⟨b, o, h1, h2, h3⟩
  · exact .inl h
  · exact .inr ⟨b, o, h1, h2, h3.sim s⟩
theorem SR.sim {w w' : World} {a : Option Addr} {n : Nat} {A : List AdK} (h : SR w a n A) (s : Sim w w') : SR w' a n A := by
  obtain ⟨hm, h⟩ := h
  rcases h with h | ⟨b, o, h1, F, h2, h3⟩
  · exact ⟨hm, .inl h⟩
  · refine ⟨hm, .inr ⟨b, o, h1, F, h2, fun i hi => ?_⟩⟩
    obtain ⟨a', n', c', h4, h5⟩ := h3 i hi
    exact ⟨a', n', c', s.rows _ _ _ _ h4, h5.sim s⟩
theorem SE.sim {w w' : World} {a : Option Addr} {n : Nat} {A : List AdK} (h : SE w a n A) (s : Sim w w') : SE w' a n A := by
  obtain ⟨hm, h⟩ := h
  rcases h with h | ⟨b, o, h1, F, h2, h3⟩
  · exact ⟨hm, .inl h⟩
  · refine ⟨hm, .inr ⟨b, o, h1, F, h2, fun i hi => ?_⟩⟩
    obtain ⟨h6, a', n', c', h4, h5⟩ := h3 i hi
    exact ⟨h6.sim s, a', n', c', s.rows _ _ _ _ h4, h5.sim s⟩
end Go.Proofs.YtioabdfddjmabaaGreat
