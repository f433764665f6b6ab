/-
  PLAIN MATHEMATICS of the machine's run: one step, the run of what is left of a program. No Go in sight.
-/
import Derived.Test.YtjkmcdgjhfiklaaMathD
namespace Go.Proofs.Ytjkmcdgjhfiklaa

/-- combine two words bit by bit, n bits from the lowest: a bit is 1 where the number of ones at its place is 1 (and 'one'), or 2 (and 'two') -/
def bitB (one two : Bool) : Nat → Int → Int → Int
  | 0, _, _ => 0
  | n + 1, a, b => (if (a % 2 + b % 2 = 1 ∧ one = true) ∨ (a % 2 + b % 2 = 2 ∧ two = true) then 1 else 0) + 2 * bitB one two n (a / 2) (b / 2)

theorem bitB_bd (one two : Bool) (n : Nat) (a b : Int) : 0 ≤ bitB one two n a b ∧ bitB one two n a b < ((2 ^ n : Nat) : Int) := by
  induction n generalizing a b with
  | zero => simp [bitB]
  | succ n ih =>
    have h := ih (a / 2) (b / 2)
    simp only [bitB, Nat.pow_succ]
    split <;> omega

theorem or01 : ∀ x < 2, ∀ y < 2, (x ||| y) = if x + y = 1 ∨ x + y = 2 then 1 else 0 := by decide
theorem and01 : ∀ x < 2, ∀ y < 2, (x &&& y) = if x + y = 2 then 1 else 0 := by decide
theorem xor01 : ∀ x < 2, ∀ y < 2, (x ^^^ y) = if x + y = 1 then 1 else 0 := by decide
theorem nat_or_step (a b : Nat) : a ||| b = (if a % 2 + b % 2 = 1 ∨ a % 2 + b % 2 = 2 then 1 else 0) + 2 * (a / 2 ||| b / 2) := by
  have h2 : (a ||| b) % 2 = (a % 2) ||| (b % 2) := Nat.or_mod_two_pow (n := 1)
  rw [or01 _ (Nat.mod_lt _ (by omega)) _ (Nat.mod_lt _ (by omega))] at h2
  rw [← Nat.or_div_two, ← h2]
  omega
theorem nat_and_step (a b : Nat) : a &&& b = (if a % 2 + b % 2 = 2 then 1 else 0) + 2 * (a / 2 &&& b / 2) := by
  have h2 : (a &&& b) % 2 = (a % 2) &&& (b % 2) := Nat.and_mod_two_pow (n := 1)
  rw [and01 _ (Nat.mod_lt _ (by omega)) _ (Nat.mod_lt _ (by omega))] at h2
  rw [← Nat.and_div_two, ← h2]
  omega
theorem nat_xor_step (a b : Nat) : a ^^^ b = (if a % 2 + b % 2 = 1 then 1 else 0) + 2 * (a / 2 ^^^ b / 2) := by
  have h2 : (a ^^^ b) % 2 = (a % 2) ^^^ (b % 2) := Nat.xor_mod_two_pow (n := 1)
  rw [xor01 _ (Nat.mod_lt _ (by omega)) _ (Nat.mod_lt _ (by omega))] at h2
  rw [← Nat.xor_div_two, ← h2]
  omega

theorem bitB_or (n : Nat) (a b : Nat) (ha : a < 2 ^ n) (hb : b < 2 ^ n) : bitB true true n a b = ((a ||| b : Nat) : Int) := by
  induction n generalizing a b with
  | zero => have : a = 0 := by omega
            have : b = 0 := by omega
            subst a b; rfl
  | succ n ih =>
    have h := ih (a / 2) (b / 2) (by rw [Nat.pow_succ] at ha; omega) (by rw [Nat.pow_succ] at hb; omega)
    rw [nat_or_step, bitB]
    rw [show ((a : Int) / 2) = ((a / 2 : Nat) : Int) by omega, show ((b : Int) / 2) = ((b / 2 : Nat) : Int) by omega, h]
    simp only [and_true]
    split <;> split <;> omega
theorem bitB_and (n : Nat) (a b : Nat) (ha : a < 2 ^ n) (hb : b < 2 ^ n) : bitB false true n a b = ((a &&& b : Nat) : Int) := by
  induction n generalizing a b with
  | zero => have : a = 0 := by omega
            have : b = 0 := by omega
            subst a b; rfl
  | succ n ih =>
    have h := ih (a / 2) (b / 2) (by rw [Nat.pow_succ] at ha; omega) (by rw [Nat.pow_succ] at hb; omega)
    rw [nat_and_step, bitB]
    rw [show ((a : Int) / 2) = ((a / 2 : Nat) : Int) by omega, show ((b : Int) / 2) = ((b / 2 : Nat) : Int) by omega, h]
    simp only [Bool.false_eq_true, and_false, false_or, and_true]
    split <;> split <;> omega
theorem bitB_xor (n : Nat) (a b : Nat) (ha : a < 2 ^ n) (hb : b < 2 ^ n) : bitB true false n a b = ((a ^^^ b : Nat) : Int) := by
  induction n generalizing a b with
  | zero => have : a = 0 := by omega
            have : b = 0 := by omega
            subst a b; rfl
  | succ n ih =>
    have h := ih (a / 2) (b / 2) (by rw [Nat.pow_succ] at ha; omega) (by rw [Nat.pow_succ] at hb; omega)
    rw [nat_xor_step, bitB]
    rw [show ((a : Int) / 2) = ((a / 2 : Nat) : Int) by omega, show ((b : Int) / 2) = ((b / 2 : Nat) : Int) by omega, h]
    simp only [Bool.false_eq_true, and_false, or_false, and_true]
    split <;> split <;> omega

def isWord (a : Int) : Prop := 0 ≤ a ∧ a ≤ 4294967295

theorem or_eq {a b : Int} (ha : isWord a) (hb : isWord b) : bitB true true 32 a b = bits .or .u32 a b := by
  obtain ⟨h1, h2⟩ := ha
  obtain ⟨h3, h4⟩ := hb
  rw [u32_or a b h1 (by omega) h3 (by omega), ← bitB_or 32 a.toNat b.toNat (by omega) (by omega), Int.toNat_of_nonneg h1, Int.toNat_of_nonneg h3]
theorem and_eq {a b : Int} (ha : isWord a) (hb : isWord b) : bitB false true 32 a b = bits .and .u32 a b := by
  obtain ⟨h1, h2⟩ := ha
  obtain ⟨h3, h4⟩ := hb
  rw [u32_and a b h1 (by omega) h3 (by omega), ← bitB_and 32 a.toNat b.toNat (by omega) (by omega), Int.toNat_of_nonneg h1, Int.toNat_of_nonneg h3]
theorem xor_eq {a b : Int} (ha : isWord a) (hb : isWord b) : bitB true false 32 a b = bits .xor .u32 a b := by
  obtain ⟨h1, h2⟩ := ha
  obtain ⟨h3, h4⟩ := hb
  rw [u32_xor a b h1 (by omega) h3 (by omega), ← bitB_xor 32 a.toNat b.toNat (by omega) (by omega), Int.toNat_of_nonneg h1, Int.toNat_of_nonneg h3]

/-- 2 to the n -/
def pw (n : Nat) : Int := ((2 ^ n : Nat) : Int)
theorem pw_pos (n : Nat) : 1 ≤ pw n := by unfold pw; have := Nat.one_le_two_pow (n := n); omega
theorem pw_le {n m : Nat} (h : n ≤ m) : pw n ≤ pw m := by unfold pw; have := Nat.pow_le_pow_right (n := 2) (by omega) h; omega
theorem pw_32 : pw 32 = 4294967296 := by decide
theorem pw_succ (n : Nat) : pw (n + 1) = 2 * pw n := by unfold pw; rw [Nat.pow_succ]; omega
theorem pw_add (n m : Nat) : pw (n + m) = pw n * pw m := by unfold pw; rw [Nat.pow_add, Int.natCast_mul]

/-- the new A, for an operation (the code's upper four bits) -/
def aluL (op a v : Int) : Int :=
  if op = 0 then (a + v) % 4294967296 else if op = 1 then (a - v) % 4294967296 else if op = 2 then a * v % 4294967296 else if op = 3 then a / v
  else if op = 4 then bitB true true 32 a v else if op = 5 then bitB false true 32 a v else if op = 10 then bitB true false 32 a v else if op = 8 then -a % 4294967296
  else if 32 ≤ v then 0 else if op = 6 then a * pw v.toNat % 4294967296 else a / pw v.toNat

theorem mul_halves (a v : Int) : (a % 65536 * v + a / 65536 * v % 65536 * 65536) % 4294967296 = a * v % 4294967296 := by
  have h1 : a = a % 65536 + 65536 * (a / 65536) := by omega
  generalize a % 65536 = lo at *
  generalize a / 65536 = hi at *
  have e : a * v = lo * v + hi * v * 65536 := by rw [h1, Int.add_mul, Int.mul_assoc, Int.mul_comm 65536]
  rw [e]
  generalize lo * v = x
  generalize hi * v = y
  omega

theorem shl_halves (a : Int) (n : Nat) (hn : n < 32) : a % pw (32 - n) * pw n = a * pw n % 4294967296 := by
  have e : (4294967296 : Int) = pw (32 - n) * pw n := by rw [← pw_add, ← pw_32]; congr 1; omega
  have h := Int.mul_emod_mul_of_pos a (pw (32 - n)) (show 0 < pw n by have := pw_pos n; omega)
  rw [e, Int.mul_comm (pw (32 - n)), Int.mul_comm a, h, Int.mul_comm]

theorem aluL_word (op a v : Int) (ha : isWord a) (hv : isWord v) : isWord (aluL op a v) := by
  have b := bitB_bd
  have p32 : ((2 ^ 32 : Nat) : Int) = 4294967296 := by decide
  obtain ⟨a0, a1⟩ := ha
  obtain ⟨v0, v1⟩ := hv
  unfold aluL isWord
  split
  · omega
  split
  · omega
  split
  · omega
  split
  · by_cases h0 : v = 0
    · subst h0; simp
    · have h1 := Int.ediv_nonneg a0 v0
      have h2 : a / v ≤ a := Int.ediv_le_self v a0
      omega
  split
  · have := b true true 32 a v; rw [p32] at this; omega
  split
  · have := b false true 32 a v; rw [p32] at this; omega
  split
  · have := b true false 32 a v; rw [p32] at this; omega
  split
  · omega
  split
  · omega
  split
  · omega
  · have hp := pw_pos v.toNat
    have h1 := Int.ediv_nonneg a0 (show 0 ≤ pw v.toNat by omega)
    have h2 : a / pw v.toNat ≤ a := Int.ediv_le_self _ a0
    omega

def holdL (op a v : Int) : Bool := if op = 1 then a == v else if op = 2 then decide (v < a) else if op = 3 then decide (v ≤ a) else bitB false true 32 a v != 0

/-- the word at byte k of the record -/
def wordL (r : List Int) (k : Nat) : Int := r.getD k 0 + 256 * r.getD (k + 1) 0 + 65536 * r.getD (k + 2) 0 + 16777216 * r.getD (k + 3) 0
theorem wordL_word {r : List Int} (h : isBytes r) (k : Nat) : isWord (wordL r k) := by
  have b := fun j => isBytes_getD h j
  have b0 := b k; have b1 := b (k + 1); have b2 := b (k + 2); have b3 := b (k + 3)
  unfold wordL isWord; omega

/-- the machine's registers and memory words -/
structure S where
  a : Int
  x : Int
  m : Nat → Int
def S.ok (s : S) : Prop := isWord s.a ∧ isWord s.x ∧ ∀ j, isWord (s.m j)

def opV (i : I) (s : S) : Int := if i.c / 8 % 2 = 1 then s.x else i.k
def endsR (i : I) (s : S) : Option Int :=
  if i.c = 6 then some i.k else if i.c = 22 then some s.a else if (i.c = 52 ∨ i.c = 60) ∧ opV i s = 0 then some 2147483648 else none
def nextS (r : List Int) (i : I) (s : S) : S :=
  if ariB i.c = true then { s with a := aluL (i.c / 16) s.a (opV i s) }
  else if i.c = 0 then { s with a := i.k }
  else if i.c = 1 then { s with x := i.k }
  else if i.c = 32 then { s with a := wordL r i.k.toNat }
  else if i.c = 96 then { s with a := s.m i.k.toNat }
  else if i.c = 97 then { s with x := s.m i.k.toNat }
  else if i.c = 2 then { s with m := fun j => if j = i.k.toNat then s.a else s.m j }
  else if i.c = 3 then { s with m := fun j => if j = i.k.toNat then s.x else s.m j }
  else if i.c = 7 then { s with x := s.a }
  else if i.c = 135 then { s with a := s.x }
  else s
def skipN (i : I) (s : S) : Nat := if i.c = 5 then i.k.toNat else if tstB i.c = true then (if holdL (i.c / 16) s.a (opV i s) = true then i.jt else i.jf).toNat else 0

/-- the run of what is left of a program: the result and the steps -/
def runL (r : List Int) : Nat → List I → S → Int × Int
  | 0, _, _ => (0, 0)
  | _ + 1, [], _ => (0, 0)
  | n + 1, i :: t, s => match endsR i s with
    | some v => (v, 1)
    | none => ((runL r n (t.drop (skipN i s)) (nextS r i s)).1, (runL r n (t.drop (skipN i s)) (nextS r i s)).2 + 1)

theorem opV_word {i : I} {s : S} (hi : i.ok) (hs : s.ok) : isWord (opV i s) := by
  unfold opV
  split
  · exact hs.2.1
  · exact ⟨hi.2.2.2.2.2.2.1, hi.2.2.2.2.2.2.2⟩
theorem nextS_ok {r : List Int} {i : I} {s : S} (hr : isBytes r) (hi : i.ok) (hs : s.ok) : (nextS r i s).ok := by
  have hk : isWord i.k := ⟨hi.2.2.2.2.2.2.1, hi.2.2.2.2.2.2.2⟩
  unfold nextS
  obtain ⟨ha, hx, hm⟩ := hs
  split
  · exact ⟨aluL_word _ _ _ ha (opV_word hi ⟨ha, hx, hm⟩), hx, hm⟩
  split
  · exact ⟨hk, hx, hm⟩
  split
  · exact ⟨ha, hk, hm⟩
  split
  · exact ⟨wordL_word hr _, hx, hm⟩
  split
  · exact ⟨hm _, hx, hm⟩
  split
  · exact ⟨ha, hm _, hm⟩
  split
  · exact ⟨ha, hx, fun j => by simp only; split; exact ha; exact hm j⟩
  split
  · exact ⟨ha, hx, fun j => by simp only; split; exact hx; exact hm j⟩
  split
  · exact ⟨ha, ha, hm⟩
  split
  · exact ⟨hx, hx, hm⟩
  · exact ⟨ha, hx, hm⟩
end Go.Proofs.Ytjkmcdgjhfiklaa
