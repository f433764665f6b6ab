/-
  MathR, Read, ReadW, MathP, MathQ, CondS, CondT, CondN, DrawU, DrawV
-/
import Derived.Test.YtjbbiailhpkdeaaDoorQ01
import Derived.Test.YtjbbiailhpkdeaaDoorQ02
import Derived.Deep.RegionWith
import Derived.Deep.DrawnRows
import Derived.Deep.RegionHeld3
import Derived.Below
import Derived.Laws.Bits64b
import Derived.Laws.BitsAllLaws
import Derived.Test.YtjbbiailhpkdeaaDoorRows
import Derived.Deep.OwnRows
import Derived.Deep.QuietTactic
import Derived.BigQuiet
namespace Go.Proofs.YtjbbiailhpkdeaaDoor

/-- combine two words bit by bit, n bits from the lowest: a bit is 1 where the number of ones at its place is 1 (and 'one'), or 2 (and 'two') -/
def bitB (one two : Bool) : Nat → Int → Int → Int
  | 0, _, _ => 0
  | n + 1, a, b => (if (a % 2 + b % 2 = 1 ∧ one = true) ∨ (a % 2 + b % 2 = 2 ∧ two = true) then 1 else 0) + 2 * bitB one two n (a / 2) (b / 2)

theorem bitB_bd (one two : Bool) (n : Nat) (a b : Int) : 0 ≤ bitB one two n a b ∧ bitB one two n a b < ((2 ^ n : Nat) : Int) := by
  induction n generalizing a b with
  | zero => simp [bitB]
  | succ n ih =>
    have h := ih (a / 2) (b / 2)
    simp only [bitB, Nat.pow_succ]
    split <;> omega

theorem or01 : ∀ x < 2, ∀ y < 2, (x ||| y) = if x + y = 1 ∨ x + y = 2 then 1 else 0 := by decide
theorem and01 : ∀ x < 2, ∀ y < 2, (x &&& y) = if x + y = 2 then 1 else 0 := by decide
theorem xor01 : ∀ x < 2, ∀ y < 2, (x ^^^ y) = if x + y = 1 then 1 else 0 := by decide
theorem nat_or_step (a b : Nat) : a ||| b = (if a % 2 + b % 2 = 1 ∨ a % 2 + b % 2 = 2 then 1 else 0) + 2 * (a / 2 ||| b / 2) := by
  have h2 : (a ||| b) % 2 = (a % 2) ||| (b % 2) := Nat.or_mod_two_pow (n := 1)
  rw [or01 _ (Nat.mod_lt _ (by omega)) _ (Nat.mod_lt _ (by omega))] at h2
  rw [← Nat.or_div_two, ← h2]
  omega
theorem nat_and_step (a b : Nat) : a &&& b = (if a % 2 + b % 2 = 2 then 1 else 0) + 2 * (a / 2 &&& b / 2) := by
  have h2 : (a &&& b) % 2 = (a % 2) &&& (b % 2) := Nat.and_mod_two_pow (n := 1)
  rw [and01 _ (Nat.mod_lt _ (by omega)) _ (Nat.mod_lt _ (by omega))] at h2
  rw [← Nat.and_div_two, ← h2]
  omega
theorem nat_xor_step (a b : Nat) : a ^^^ b = (if a % 2 + b % 2 = 1 then 1 else 0) + 2 * (a / 2 ^^^ b / 2) := by
  have h2 : (a ^^^ b) % 2 = (a % 2) ^^^ (b % 2) := Nat.xor_mod_two_pow (n := 1)
  rw [xor01 _ (Nat.mod_lt _ (by omega)) _ (Nat.mod_lt _ (by omega))] at h2
  rw [← Nat.xor_div_two, ← h2]
  omega

theorem bitB_or (n : Nat) (a b : Nat) (ha : a < 2 ^ n) (hb : b < 2 ^ n) : bitB true true n a b = ((a ||| b : Nat) : Int) := by
  induction n generalizing a b with
  | zero => have : a = 0 := by omega
            have : b = 0 := by omega
            subst a b; rfl
  | succ n ih =>
    have h := ih (a / 2) (b / 2) (by rw [Nat.pow_succ] at ha; omega) (by rw [Nat.pow_succ] at hb; omega)
    rw [nat_or_step, bitB]
    rw [show ((a : Int) / 2) = ((a / 2 : Nat) : Int) by omega, show ((b : Int) / 2) = ((b / 2 : Nat) : Int) by omega, h]
    simp only [and_true]
    split <;> split <;> omega
theorem bitB_and (n : Nat) (a b : Nat) (ha : a < 2 ^ n) (hb : b < 2 ^ n) : bitB false true n a b = ((a &&& b : Nat) : Int) := by
  induction n generalizing a b with
  | zero => have : a = 0 := by omega
            have : b = 0 := by omega
            subst a b; rfl
  | succ n ih =>
    have h := ih (a / 2) (b / 2) (by rw [Nat.pow_succ] at ha; omega) (by rw [Nat.pow_succ] at hb; omega)
    rw [nat_and_step, bitB]
    rw [show ((a : Int) / 2) = ((a / 2 : Nat) : Int) by omega, show ((b : Int) / 2) = ((b / 2 : Nat) : Int) by omega, h]
    simp only [Bool.false_eq_true, and_false, false_or, and_true]
    split <;> split <;> omega
theorem bitB_xor (n : Nat) (a b : Nat) (ha : a < 2 ^ n) (hb : b < 2 ^ n) : bitB true false n a b = ((a ^^^ b : Nat) : Int) := by
  induction n generalizing a b with
  | zero => have : a = 0 := by omega
            have : b = 0 := by omega
            subst a b; rfl
  | succ n ih =>
    have h := ih (a / 2) (b / 2) (by rw [Nat.pow_succ] at ha; omega) (by rw [Nat.pow_succ] at hb; omega)
    rw [nat_xor_step, bitB]
    rw [show ((a : Int) / 2) = ((a / 2 : Nat) : Int) by omega, show ((b : Int) / 2) = ((b / 2 : Nat) : Int) by omega, h]
    simp only [Bool.false_eq_true, and_false, or_false, and_true]
    split <;> split <;> omega

def isWord (a : Int) : Prop := 0 ≤ a ∧ a ≤ 4294967295

theorem or_eq {a b : Int} (ha : isWord a) (hb : isWord b) : bitB true true 32 a b = bits .or .u32 a b := by
  obtain ⟨h1, h2⟩ := ha
  obtain ⟨h3, h4⟩ := hb
  rw [u32_or a b h1 (by omega) h3 (by omega), ← bitB_or 32 a.toNat b.toNat (by omega) (by omega), Int.toNat_of_nonneg h1, Int.toNat_of_nonneg h3]
theorem and_eq {a b : Int} (ha : isWord a) (hb : isWord b) : bitB false true 32 a b = bits .and .u32 a b := by
  obtain ⟨h1, h2⟩ := ha
  obtain ⟨h3, h4⟩ := hb
  rw [u32_and a b h1 (by omega) h3 (by omega), ← bitB_and 32 a.toNat b.toNat (by omega) (by omega), Int.toNat_of_nonneg h1, Int.toNat_of_nonneg h3]
theorem xor_eq {a b : Int} (ha : isWord a) (hb : isWord b) : bitB true false 32 a b = bits .xor .u32 a b := by
  obtain ⟨h1, h2⟩ := ha
  obtain ⟨h3, h4⟩ := hb
  rw [u32_xor a b h1 (by omega) h3 (by omega), ← bitB_xor 32 a.toNat b.toNat (by omega) (by omega), Int.toNat_of_nonneg h1, Int.toNat_of_nonneg h3]

/-- 2 to the n -/
def pw (n : Nat) : Int := ((2 ^ n : Nat) : Int)
theorem pw_pos (n : Nat) : 1 ≤ pw n := by unfold pw; have := Nat.one_le_two_pow (n := n); omega
theorem pw_le {n m : Nat} (h : n ≤ m) : pw n ≤ pw m := by unfold pw; have := Nat.pow_le_pow_right (n := 2) (by omega) h; omega
theorem pw_32 : pw 32 = 4294967296 := by decide
theorem pw_succ (n : Nat) : pw (n + 1) = 2 * pw n := by unfold pw; rw [Nat.pow_succ]; omega
theorem pw_add (n m : Nat) : pw (n + m) = pw n * pw m := by unfold pw; rw [Nat.pow_add, Int.natCast_mul]

/-- the new A, for an operation (the code's upper four bits) -/
def aluL (op a v : Int) : Int :=
  if op = 0 then (a + v) % 4294967296 else if op = 1 then (a - v) % 4294967296 else if op = 2 then a * v % 4294967296 else if op = 3 then a / v
  else if op = 4 then bitB true true 32 a v else if op = 5 then bitB false true 32 a v else if op = 10 then bitB true false 32 a v else if op = 8 then -a % 4294967296
  else if 32 ≤ v then 0 else if op = 6 then a * pw v.toNat % 4294967296 else a / pw v.toNat

theorem mul_halves (a v : Int) : (a % 65536 * v + a / 65536 * v % 65536 * 65536) % 4294967296 = a * v % 4294967296 := by
  have h1 : a = a % 65536 + 65536 * (a / 65536) := by omega
  generalize a % 65536 = lo at *
  generalize a / 65536 = hi at *
  have e : a * v = lo * v + hi * v * 65536 := by rw [h1, Int.add_mul, Int.mul_assoc, Int.mul_comm 65536]
  rw [e]
  generalize lo * v = x
  generalize hi * v = y
  omega

theorem shl_halves (a : Int) (n : Nat) (hn : n < 32) : a % pw (32 - n) * pw n = a * pw n % 4294967296 := by
  have e : (4294967296 : Int) = pw (32 - n) * pw n := by rw [← pw_add, ← pw_32]; congr 1; omega
  have h := Int.mul_emod_mul_of_pos a (pw (32 - n)) (show 0 < pw n by have := pw_pos n; omega)
  rw [e, Int.mul_comm (pw (32 - n)), Int.mul_comm a, h, Int.mul_comm]

theorem aluL_word (op a v : Int) (ha : isWord a) (hv : isWord v) : isWord (aluL op a v) := by
  have b := bitB_bd
  have p32 : ((2 ^ 32 : Nat) : Int) = 4294967296 := by decide
  obtain ⟨a0, a1⟩ := ha
  obtain ⟨v0, v1⟩ := hv
  unfold aluL isWord
  split
  · omega
  split
  · omega
  split
  · omega
  split
  · by_cases h0 : v = 0
    · subst h0; simp
    · have h1 := Int.ediv_nonneg a0 v0
      have h2 : a / v ≤ a := Int.ediv_le_self v a0
      omega
  split
  · have := b true true 32 a v; rw [p32] at this; omega
  split
  · have := b false true 32 a v; rw [p32] at this; omega
  split
  · have := b true false 32 a v; rw [p32] at this; omega
  split
  · omega
  split
  · omega
  split
  · omega
  · have hp := pw_pos v.toNat
    have h1 := Int.ediv_nonneg a0 (show 0 ≤ pw v.toNat by omega)
    have h2 : a / pw v.toNat ≤ a := Int.ediv_le_self _ a0
    omega

def holdL (op a v : Int) : Bool := if op = 1 then a == v else if op = 2 then decide (v < a) else if op = 3 then decide (v ≤ a) else bitB false true 32 a v != 0

/-- the word at byte k of the record -/
def wordL (r : List Int) (k : Nat) : Int := r.getD k 0 + 256 * r.getD (k + 1) 0 + 65536 * r.getD (k + 2) 0 + 16777216 * r.getD (k + 3) 0
theorem wordL_word {r : List Int} (h : isBytes r) (k : Nat) : isWord (wordL r k) := by
  have b := fun j => isBytes_getD h j
  have b0 := b k; have b1 := b (k + 1); have b2 := b (k + 2); have b3 := b (k + 3)
  unfold wordL isWord; omega

/-- the machine's registers and memory words -/
structure S where
  a : Int
  x : Int
  m : Nat → Int
def S.ok (s : S) : Prop := isWord s.a ∧ isWord s.x ∧ ∀ j, isWord (s.m j)

def opV (i : I) (s : S) : Int := if i.c / 8 % 2 = 1 then s.x else i.k
def endsR (i : I) (s : S) : Option Int :=
  if i.c = 6 then some i.k else if i.c = 22 then some s.a else if (i.c = 52 ∨ i.c = 60) ∧ opV i s = 0 then some 2147483648 else none
def nextS (r : List Int) (i : I) (s : S) : S :=
  if ariB i.c = true then { s with a := aluL (i.c / 16) s.a (opV i s) }
  else if i.c = 0 then { s with a := i.k }
  else if i.c = 1 then { s with x := i.k }
  else if i.c = 32 then { s with a := wordL r i.k.toNat }
  else if i.c = 96 then { s with a := s.m i.k.toNat }
  else if i.c = 97 then { s with x := s.m i.k.toNat }
  else if i.c = 2 then { s with m := fun j => if j = i.k.toNat then s.a else s.m j }
  else if i.c = 3 then { s with m := fun j => if j = i.k.toNat then s.x else s.m j }
  else if i.c = 7 then { s with x := s.a }
  else if i.c = 135 then { s with a := s.x }
  else s
def skipN (i : I) (s : S) : Nat := if i.c = 5 then i.k.toNat else if tstB i.c = true then (if holdL (i.c / 16) s.a (opV i s) = true then i.jt else i.jf).toNat else 0

/-- the run of what is left of a program: the result and the steps -/
def runL (r : List Int) : Nat → List I → S → Int × Int
  | 0, _, _ => (0, 0)
  | _ + 1, [], _ => (0, 0)
  | n + 1, i :: t, s => match endsR i s with
    | some v => (v, 1)
    | none => ((runL r n (t.drop (skipN i s)) (nextS r i s)).1, (runL r n (t.drop (skipN i s)) (nextS r i s)).2 + 1)

theorem opV_word {i : I} {s : S} (hi : i.ok) (hs : s.ok) : isWord (opV i s) := by
  unfold opV
  split
  · exact hs.2.1
  · exact ⟨hi.2.2.2.2.2.2.1, hi.2.2.2.2.2.2.2⟩
theorem nextS_ok {r : List Int} {i : I} {s : S} (hr : isBytes r) (hi : i.ok) (hs : s.ok) : (nextS r i s).ok := by
  have hk : isWord i.k := ⟨hi.2.2.2.2.2.2.1, hi.2.2.2.2.2.2.2⟩
  unfold nextS
  obtain ⟨ha, hx, hm⟩ := hs
  split
  · exact ⟨aluL_word _ _ _ ha (opV_word hi ⟨ha, hx, hm⟩), hx, hm⟩
  split
  · exact ⟨hk, hx, hm⟩
  split
  · exact ⟨ha, hk, hm⟩
  split
  · exact ⟨wordL_word hr _, hx, hm⟩
  split
  · exact ⟨hm _, hx, hm⟩
  split
  · exact ⟨ha, hm _, hm⟩
  split
  · exact ⟨ha, hx, fun j => by simp only; split; exact ha; exact hm j⟩
  split
  · exact ⟨ha, hx, fun j => by simp only; split; exact hx; exact hm j⟩
  split
  · exact ⟨ha, ha, hm⟩
  split
  · exact ⟨hx, hx, hm⟩
  · exact ⟨ha, hx, hm⟩
end Go.Proofs.YtjbbiailhpkdeaaDoor
namespace Go.Proofs.YtjbbiailhpkdeaaDoor
open Go.RowKit
set_option linter.unusedVariables false

/-- the reader's two cells -/
def rdF (a : Option Addr) (cap : Nat) (l : List Int) (j : Nat) (i : Nat) : Value := if i = 0 then .slice a l.length cap else .int .i64 ((min j l.length : Nat) : Int)

/-- a reader in block R that has taken j of the bytes l (j goes on behind the last one, where it reads 0) -/
structure Rd (w : World) (R : Nat) (a : Option Addr) (cap : Nat) (l : List Int) (j : Nat) : Prop where
  row : w.rowIs R 66 2 (rdF a cap l j)
  src : l = [] ∨ ∃ b o, a = some ⟨b, o, none⟩ ∧ b < R ∧ BytesAt w b o l
  bys : isBytes l
  len : l.length ≤ 600
  cp : l.length ≤ cap

theorem Rd.lt {w : World} {R cap j : Nat} {a : Option Addr} {l : List Int} (h : Rd w R a cap l j) : R < w.heap.size := World.rowIs.lt h.row
theorem Rd.keep {w w1 : World} {R cap j : Nat} {a : Option Addr} {l : List Int} (h : Rd w R a cap l j) (e : ∀ k, k ≤ R → w1.heap[k]? = w.heap[k]?) : Rd w1 R a cap l j := by
  refine ⟨World.rowIs.of_block h.row (e R (Nat.le_refl _)), ?_, h.bys, h.len, h.cp⟩
  rcases h.src with h1 | ⟨b, o, h1, h2, h3⟩
  · exact .inl h1
  · exact .inr ⟨b, o, h1, h2, fun i hi => (World.cell?_of_block (w := w) (e b (by omega))).trans (h3 i hi)⟩
theorem Rd.below {w w1 : World} {R cap j : Nat} {a : Option Addr} {l : List Int} (h : Rd w R a cap l j) (hb : Below w.heap.size w w1) : Rd w1 R a cap l j :=
  h.keep (fun k hk => hb.block k (Nat.lt_of_le_of_lt hk h.lt))
theorem Rd.alloc {w : World} {R cap j : Nat} {a : Option Addr} {l : List Int} (h : Rd w R a cap l j) (o : Obj) : Rd (w.alloc o) R a cap l j :=
  h.keep (fun k hk => Below.heap_alloc w o k (Nat.lt_of_le_of_lt hk h.lt))
theorem Rd.drewN {w : World} {R cap j : Nat} {a : Option Addr} {l : List Int} (h : Rd w R a cap l j) (n : Nat) : Rd (w.drewN n) R a cap l j :=
  h.keep (fun k hk => rfl)
theorem Rd.grown {w w1 : World} {R cap j B : Nat} {a : Option Addr} {l : List Int} {row : Option Nat} (h : Rd w R a cap l j) (hg : w.grownBy w1 row) (hR : R < B) (hr : ∀ k, row = some k → B ≤ k) : Rd w1 R a cap l j :=
  h.keep (fun k hk => hg.block k (Nat.lt_of_le_of_lt hk h.lt) (fun e => by have := hr k e.symm; omega))
theorem Rd.set {w : World} {R cap j : Nat} {a : Option Addr} {l : List Int} (h : Rd w R a cap l j) (v : Int) (j' : Nat) (hv : v = ((min j' l.length : Nat) : Int)) : Rd (w.setCell ⟨R, 1, none⟩ (.int .i64 v)) R a cap l j' := by
  refine ⟨(World.rowIs.set h.row 1 (.int .i64 v)).congr (fun i hi => ?_), ?_, h.bys, h.len, h.cp⟩
  · unfold rdF
    by_cases e : i = 1
    · subst e; simp [hv]
    · have : i = 0 := by omega
      subst this; simp
  · rcases h.src with h1 | ⟨b, o, h1, h2, h3⟩
    · exact .inl h1
    · refine .inr ⟨b, o, h1, h2, fun i hi => (World.cell?_of_block (w := w) ?_).trans (h3 i hi)⟩
      exact Below.heap_setCell w ⟨R, 1, none⟩ _ b (by show b ≠ R; omega)
theorem Rd.past {w : World} {R cap j : Nat} {a : Option Addr} {l : List Int} (h : Rd w R a cap l j) (hj : l.length ≤ j) : Rd w R a cap l (j + 1) := by
  refine ⟨h.row.congr (fun i hi => ?_), h.src, h.bys, h.len, h.cp⟩
  unfold rdF
  rw [Nat.min_eq_right hj, Nat.min_eq_right (by omega)]

theorem rb_drewN {w w1 : World} {r : Option Nat} (h : w.grownBy w1 r) (n : Nat) : w.grownBy (w1.drewN n) r := ⟨h.os, h.tape, h.output, h.size, h.block⟩
theorem rb_alloc {w w1 : World} {r : Option Nat} (h : w.grownBy w1 r) (o : Obj) : w.grownBy (w1.alloc o) r :=
  ⟨h.os, h.tape, h.output, by have := h.size; simp; omega, fun k hk hne => (Below.heap_alloc w1 o k (by have := h.size; omega)).trans (h.block k hk hne)⟩
theorem rb_set {w wr : World} {D : Nat} (h : w.grownBy wr (some D)) (j : Nat) (v : Value) : w.grownBy (wr.setCell ⟨D, j, none⟩ v) (some D) :=
  ⟨h.os, h.tape, h.output, by have := h.size; simpa [World.setCell] using this, fun k hk hne => (Below.heap_setCell wr ⟨D, j, none⟩ v k (fun e => hne (by rw [e]))).trans (h.block k hk hne)⟩
theorem rb_below {w w1 : World} {r : Option Nat} (h : Below w.heap.size w w1) : w.grownBy w1 r := ⟨h.os, h.tape, h.output, h.size, fun k hk _ => h.block k hk⟩
theorem rb_trans {w w1 w2 : World} {r : Option Nat} (h : w.grownBy w1 r) (k : w1.grownBy w2 r) : w.grownBy w2 r :=
  ⟨k.os.trans h.os, k.tape.trans h.tape, k.output.trans h.output, Nat.le_trans h.size k.size, fun i hi hne => (k.block i (Nat.lt_of_lt_of_le hi h.size) hne).trans (h.block i hi hne)⟩
theorem rb_own {w wr w1 : World} {R : Nat} {row : Option Nat} (h : w.grownBy wr (some R)) (hg : wr.grownBy w1 row) (hr : ∀ k, row = some k → w.heap.size ≤ k) : w.grownBy w1 (some R) :=
  ⟨hg.os.trans h.os, hg.tape.trans h.tape, hg.output.trans h.output, Nat.le_trans h.size hg.size, fun k hk hne => (hg.block k (Nat.lt_of_lt_of_le hk h.size) (fun e => by have := hr k e.symm; omega)).trans (h.block k hk hne)⟩

set_option maxHeartbeats 1000000 in
theorem next_in (R b o cap : Nat) (l : List Int) (j : Nat) (w : World) (hR : Rd w R (some ⟨b, o, none⟩) cap l j) (hs : BytesAt w b o l) (hj : j < l.length) :
    Calls Tryd.prog 20 #[.pointer (some ⟨R, 0, none⟩)] w fun e w' => e = .returned (.int .i64 (l.getD j 0)) ∧ Rd w' R (some ⟨b, o, none⟩) cap l (j + 1) ∧ w.grownBy w' (some R) := by
  have HR : Hid (Rd w R (some ⟨b, o, none⟩) cap l j) := hR
  have hc := hs j hj
  have hcp := hR.cp
  have hlen := hR.len
  have hb := hR.bys
  have e0 : w.cell? ⟨R, 0, none⟩ = some (.slice (some ⟨b, o, none⟩) l.length cap) := World.rowIs.cell hR.row (by omega)
  have e1 : w.cell? ⟨R, 1, none⟩ = some (.int .i64 (j : Int)) := by rw [World.rowIs.cell hR.row (by omega)]; unfold rdF; rw [if_neg (by omega), Nat.min_eq_left (by omega)]
  have f1 : w.frozen? ⟨R, 1, none⟩ = false := World.rowIs.frozen hR.row 1
  have hx : 0 ≤ l.getD j 0 ∧ l.getD j 0 ≤ 255 := isBytes_getD hb j
  obtain ⟨x, ex⟩ : ∃ x, l.getD j 0 = x := ⟨_, rfl⟩
  rw [ex] at hc hx ⊢
  obtain ⟨n, en⟩ : ∃ n, l.length = n := ⟨_, rfl⟩
  have HN : Hid (l.length = n) := en
  rw [en] at hj hcp hlen e0
  clear ex en hs hR hb
  have hjn : (j : Int) < (n : Int) := by omega
  go_enter Tryd.func20, Tryd.ntmps20
  go_wp2_with fail
  go_quiet (fail)
  go_wp2_with fail
  go_quiet (fail)
  go_wp2
  go_ret
  refine ⟨rfl, (HR.out.drewN _).set _ (j + 1) (by rw [HN.out, Nat.min_eq_left (by omega)]; simp), ?_⟩
  exact rb_set (rb_drewN (World.grownBy.refl _ _) _) _ _

set_option maxHeartbeats 1000000 in
theorem next_out (R cap : Nat) (a : Option Addr) (l : List Int) (j : Nat) (w : World) (hR : Rd w R a cap l j) (hj : l.length ≤ j) :
    Calls Tryd.prog 20 #[.pointer (some ⟨R, 0, none⟩)] w fun e w' => e = .returned (.int .i64 (l.getD j 0)) ∧ Rd w' R a cap l (j + 1) ∧ w.grownBy w' (some R) := by
  have HR : Hid (Rd w R a cap l j) := hR
  have e0 : w.cell? ⟨R, 0, none⟩ = some (.slice a l.length cap) := World.rowIs.cell hR.row (by omega)
  have e1 : w.cell? ⟨R, 1, none⟩ = some (.int .i64 (l.length : Int)) := by rw [World.rowIs.cell hR.row (by omega)]; unfold rdF; rw [if_neg (by omega), Nat.min_eq_right (by omega)]
  have ex : l.getD j 0 = 0 := by rw [List.getD_eq_getElem?_getD, List.getElem?_eq_none hj]; rfl
  have hlen := hR.len
  rw [ex]
  obtain ⟨n, en⟩ : ∃ n, l.length = n := ⟨_, rfl⟩
  have HN : Hid (l.length = n) := en
  rw [en] at hj hlen e0 e1
  clear ex en hR
  go_enter Tryd.func20, Tryd.ntmps20
  go_wp2_with fail
  go_quiet (fail)
  go_wp2
  go_ret
  exact ⟨rfl, (HR.out.past (by rw [HN.out]; exact hj)).drewN _, rb_drewN (World.grownBy.refl _ _) _⟩

theorem next_any (R cap : Nat) (a : Option Addr) (l : List Int) (j : Nat) (w : World) (hR : Rd w R a cap l j) :
    Calls Tryd.prog 20 #[.pointer (some ⟨R, 0, none⟩)] w fun e w' => e = .returned (.int .i64 (l.getD j 0)) ∧ Rd w' R a cap l (j + 1) ∧ w.grownBy w' (some R) := by
  by_cases hj : j < l.length
  · rcases hR.src with rfl | ⟨b, o, rfl, h2, h3⟩
    · simp at hj
    · exact next_in R b o cap l j w hR h3 hj
  · exact next_out R cap a l j w hR (by omega)
end Go.Proofs.YtjbbiailhpkdeaaDoor
namespace Go.Proofs.YtjbbiailhpkdeaaDoor
open Go.RowKit
set_option linter.unusedVariables false

theorem isBytes_take {l : List Int} (h : isBytes l) (n : Nat) : isBytes (l.take n) := fun x hx => h x (List.mem_of_mem_take hx)

theorem rd_new (a : Option Addr) (cap : Nat) (l : List Int) (w : World) (hs : BSrc w a l) (hl : isBytes l) (n : Nat) (hn : (l.take 600).length = n) (hnl : n ≤ l.length) (hcap : n ≤ cap) (c : Array Value)
    (hc : c = #[.slice a (l.take 600).length cap, .int .i64 0]) : Rd (w.alloc (.cells c 66)) w.heap.size a cap (l.take 600) 0 := by
  subst hc
  refine ⟨?_, ?_, isBytes_take hl _, by rw [List.length_take]; omega, by omega⟩
  · refine World.rowIs_alloc w #[.slice a (l.take 600).length cap, .int .i64 0] _ _ (fun i hi => ?_)
    have h2 : i < 2 := hi
    have : i = 0 ∨ i = 1 := by omega
    rcases this with rfl | rfl
    · rfl
    · unfold rdF; simp
  · rcases hs with rfl | ⟨b, o, rfl, h2, h3⟩
    · exact .inl rfl
    · refine .inr ⟨b, o, rfl, h2, fun i hi => ?_⟩
      rw [hn] at hi
      rw [World.cell?_of_block (w := w) (Below.heap_alloc w _ b h2), h3 i (by omega)]
      have e : (l.take 600).getD i 0 = l.getD i 0 := by
        rw [List.getD_eq_getElem?_getD, List.getD_eq_getElem?_getD, List.getElem?_take, if_pos]
        rw [List.length_take] at hn; omega
      rw [e]

set_option maxHeartbeats 1000000 in
theorem open_any (a : Option Addr) (cap : Nat) (l : List Int) (w : World) (hs : BSrc w a l) (hl : isBytes l) (hcap : l.length ≤ cap) (hn : l.length ≤ 1048576) :
    Calls Tryd.prog 19 #[.slice a l.length cap] w fun e w' => ∃ R cap', e = .returned (.pointer (some ⟨R, 0, none⟩)) ∧ w.heap.size ≤ R ∧ Rd w' R a cap' (l.take 600) 0 ∧ Below w.heap.size w w' := by
  obtain ⟨n, en⟩ : ∃ n, l.length = n := ⟨_, rfl⟩
  have HN : Hid (l.length = n) := en
  rw [en] at hcap hn ⊢
  clear en
  by_cases hbig : 600 < n
  · have ht : (l.take 600).length = 600 := by rw [List.length_take, HN.out]; omega
    have HT : Hid ((l.take 600).length = 600) := ht
    clear ht
    go_enter Tryd.func19, Tryd.ntmps19
    go_wp2
    go_ret
    refine ⟨w.heap.size, cap, rfl, Nat.le_refl _, ?_, ?_⟩
    · exact rd_new a cap l w hs hl 600 HT.out (by rw [HN.out]; omega) (by omega) _ (by rw [HT.out])
    · exact (Below.refl _ _).alloc (Nat.le_refl _) _
  · have ht : (l.take 600).length = n := by rw [List.length_take, HN.out]; omega
    have HT : Hid ((l.take 600).length = n) := ht
    clear ht
    go_enter Tryd.func19, Tryd.ntmps19
    go_wp2
    go_ret
    refine ⟨w.heap.size, cap, rfl, Nat.le_refl _, ?_, ?_⟩
    · exact rd_new a cap l w hs hl n HT.out (by rw [HN.out]; omega) (by omega) _ (by rw [HT.out])
    · exact (Below.refl _ _).alloc (Nat.le_refl _) _

/-- a drawn word, and where the reader stands behind it -/
def wordV (l : List Int) (j : Nat) : Int :=
  if l.getD j 0 < 100 then l.getD j 0 % 20 else if l.getD j 0 < 130 then 2 ^ (l.getD j 0 % 32).toNat else if l.getD j 0 < 160 then 4294967295 - l.getD j 0 % 5
  else if l.getD j 0 < 190 then 2147483647 + l.getD j 0 % 3 else (l.getD j 0 * 16777619 + l.getD (j + 1) 0 * 65537 + l.getD (j + 2) 0) % 4294967296
def wordJ (l : List Int) (j : Nat) : Nat := if l.getD j 0 < 190 then j + 1 else j + 3

set_option maxHeartbeats 1000000 in
theorem drawWord_any (R cap : Nat) (a : Option Addr) (l : List Int) (j : Nat) (w : World) (hR : Rd w R a cap l j) :
    Calls Tryd.prog 57 #[.pointer (some ⟨R, 0, none⟩)] w fun e w' => e = .returned (.int .u32 (wordV l j)) ∧ Rd w' R a cap l (wordJ l j) ∧ w.grownBy w' (some R) := by
  have hx := isBytes_getD hR.bys j
  have hy := isBytes_getD hR.bys (j + 1)
  have hz := isBytes_getD hR.bys (j + 2)
  have HN1 : ∀ W, Rd W R a cap l j → Calls Tryd.prog 20 #[.pointer (some ⟨R, 0, none⟩)] W fun e w' => e = .returned (.int .i64 (l.getD j 0)) ∧ Rd w' R a cap l (j + 1) ∧ W.grownBy w' (some R) := fun W h => next_any R cap a l j W h
  have HN2 : ∀ W, Rd W R a cap l (j + 1) → Calls Tryd.prog 20 #[.pointer (some ⟨R, 0, none⟩)] W fun e w' => e = .returned (.int .i64 (l.getD (j + 1) 0)) ∧ Rd w' R a cap l (j + 2) ∧ W.grownBy w' (some R) := fun W h => next_any R cap a l (j + 1) W h
  have HN3 : ∀ W, Rd W R a cap l (j + 2) → Calls Tryd.prog 20 #[.pointer (some ⟨R, 0, none⟩)] W fun e w' => e = .returned (.int .i64 (l.getD (j + 2) 0)) ∧ Rd w' R a cap l (j + 3) ∧ W.grownBy w' (some R) := fun W h => next_any R cap a l (j + 2) W h
  obtain ⟨V, hV⟩ : ∃ V, wordV l j = V := ⟨_, rfl⟩
  obtain ⟨J, hJ⟩ : ∃ J, wordJ l j = J := ⟨_, rfl⟩
  rw [hV, hJ]
  unfold wordV at hV
  unfold wordJ at hJ
  generalize l.getD j 0 = x at *
  generalize l.getD (j + 1) 0 = y at *
  generalize l.getD (j + 2) 0 = z at *
  have HV : Hid _ := hV
  have HJ : Hid _ := hJ
  clear hV hJ
  go_enter Tryd.func57, Tryd.ntmps57
  go_wp2_with fail
  refine (HN1 _ hR).mono ?_
  rintro _ w1 ⟨rfl, hR1, hg1⟩
  by_cases c1 : x < 100
  · have hV : V = x % 20 := by rw [← HV.out, if_pos c1]
    have hJ : J = j + 1 := by rw [← HJ.out, if_pos (by omega)]
    subst hV hJ
    clear HV HJ HN2 HN3
    go_wp2
    go_ret
    exact ⟨rfl, hR1, hg1⟩
  by_cases c2 : x < 130
  · have hV : V = 2 ^ (x % 32).toNat := by rw [← HV.out, if_neg c1, if_pos c2]
    have hJ : J = j + 1 := by rw [← HJ.out, if_pos (by omega)]
    subst hV hJ
    clear HV HJ HN2 HN3
    go_wp2
    go_ret
    refine ⟨ret_int ?_, hR1, hg1⟩
    have hp : ∀ k : Nat, k < 32 → (2 : Int) ^ k % 4294967296 = 2 ^ k := by decide
    exact hp _ (by omega)
  by_cases c3 : x < 160
  · have hV : V = 4294967295 - x % 5 := by rw [← HV.out, if_neg c1, if_neg c2, if_pos c3]
    have hJ : J = j + 1 := by rw [← HJ.out, if_pos (by omega)]
    subst hV hJ
    clear HV HJ HN2 HN3
    go_wp2
    go_ret
    exact ⟨ret_int (by first | rfl | omega), hR1, hg1⟩
  by_cases c4 : x < 190
  · have hV : V = 2147483647 + x % 3 := by rw [← HV.out, if_neg c1, if_neg c2, if_neg c3, if_pos c4]
    have hJ : J = j + 1 := by rw [← HJ.out, if_pos (by omega)]
    subst hV hJ
    clear HV HJ HN2 HN3
    go_wp2
    go_ret
    exact ⟨ret_int (by first | rfl | omega), hR1, hg1⟩
  · have hV : V = (x * 16777619 + y * 65537 + z) % 4294967296 := by rw [← HV.out, if_neg c1, if_neg c2, if_neg c3, if_neg c4]
    have hJ : J = j + 3 := by rw [← HJ.out, if_neg (by omega)]
    subst hV hJ
    clear HV HJ
    go_wp2_with fail
    refine (HN2 _ hR1).mono ?_
    rintro _ w2 ⟨rfl, hR2, hg2⟩
    go_wp2_with fail
    refine (HN3 _ hR2).mono ?_
    rintro _ w3 ⟨rfl, hR3, hg3⟩
    go_wp2
    go_ret
    refine ⟨ret_int ?_, hR3, rb_trans hg1 (rb_trans hg2 hg3)⟩
    omega
end Go.Proofs.YtjbbiailhpkdeaaDoor
namespace Go.Proofs.YtjbbiailhpkdeaaDoor
set_option linter.unusedVariables false

/-- a condition: its three numbers -/
structure K where
  kind : Int
  a : Nat
  b : Nat
deriving DecidableEq

def K.zero : K := ⟨0, 0, 0⟩
def K.ok (c : K) : Prop := (-9223372036854775808 ≤ c.kind ∧ c.kind ≤ 9223372036854775807) ∧ c.a < 18446744073709551616 ∧ c.b < 18446744073709551616
theorem K.zero_ok : K.zero.ok := ⟨⟨by decide, by decide⟩, by decide, by decide⟩

def low (k : Nat) : Nat := 2 ^ k - 1
def inv (x : Nat) : Nat := 18446744073709551615 - x

theorem low_lt (k : Nat) : low k < 2 ^ k := by have := Nat.two_pow_pos k; unfold low; omega
theorem low_succ (k : Nat) : low k + 1 = 2 ^ k := by have := Nat.two_pow_pos k; unfold low; omega
theorem low_64 : low 64 = 18446744073709551615 := by decide
theorem low_le {k : Nat} (h : k ≤ 64) : low k ≤ 18446744073709551615 := by
  have := Nat.pow_le_pow_right (n := 2) (by omega) h
  have e : 2 ^ 64 = 18446744073709551616 := by decide
  unfold low; omega
theorem low_inj {i k : Nat} (h : low i = low k) : i = k := by
  have h1 := low_succ i
  have h2 := low_succ k
  rw [h] at h1
  exact (Nat.pow_right_inj (a := 2) (by omega)).1 (h1.symm.trans h2)
theorem inv_lt (x : Nat) : inv x < 18446744073709551616 := by unfold inv; omega
theorem inv_inv {x : Nat} (h : x < 18446744073709551616) : inv (inv x) = x := by unfold inv; omega
theorem bit_low (k i : Nat) : (low k).testBit i = decide (i < k) := Nat.testBit_two_pow_sub_one k i
theorem bit_inv {x : Nat} (h : x < 18446744073709551616) (i : Nat) : (inv x).testBit i = (decide (i < 64) && !x.testBit i) := by
  have e : inv x = 2 ^ 64 - (x + 1) := by unfold inv; omega
  rw [e]; exact Nat.testBit_two_pow_sub_succ (by omega) i
theorem bit_hi {x : Nat} (h : x < 18446744073709551616) {i : Nat} (hi : 64 ≤ i) : x.testBit i = false := by
  apply Nat.testBit_lt_two_pow
  exact Nat.lt_of_lt_of_le (show x < 2 ^ 64 by omega) (Nat.pow_le_pow_right (by omega) hi)
theorem and_zero_iff (x y : Nat) : x &&& y = 0 ↔ ∀ i, ¬ (x.testBit i = true ∧ y.testBit i = true) := by
  constructor
  · intro h i ⟨h1, h2⟩
    have e : (x &&& y).testBit i = true := by rw [Nat.testBit_and, h1, h2]; rfl
    rw [h, Nat.zero_testBit] at e; exact absurd e (by decide)
  · intro h
    apply Nat.eq_of_testBit_eq
    intro i
    rw [Nat.testBit_and, Nat.zero_testBit]
    have := h i
    revert this
    cases x.testBit i <;> cases y.testBit i <;> simp
theorem and_eq_iff (x y : Nat) : x &&& y = y ↔ ∀ i, y.testBit i = true → x.testBit i = true := by
  constructor
  · intro h i h1
    rw [← h, Nat.testBit_and] at h1
    revert h1
    cases x.testBit i <;> simp
  · intro h
    apply Nat.eq_of_testBit_eq
    intro i
    rw [Nat.testBit_and]
    have := h i
    revert this
    cases x.testBit i <;> cases y.testBit i <;> simp

/-- the ones are exactly the lowest bits -/
def isLow (x : Nat) : Bool := x &&& ((x + 1) % 18446744073709551616) == 0

theorem lowones : ∀ n x : Nat, x ≤ n → x &&& (x + 1) = 0 → ∃ k, x = low k
  | 0, x, hx, _ => ⟨0, (Nat.le_zero.1 hx).trans (by decide)⟩
  | n + 1, x, hx, h => by
    by_cases h0 : x = 0
    · exact ⟨0, by rw [h0]; decide⟩
    by_cases h2 : x % 2 = 1
    · obtain ⟨k, hk⟩ := lowones n (x / 2) (by omega) (by
        have e : (x &&& (x + 1)) / 2 = (x / 2) &&& (x / 2 + 1) := by
          rw [Nat.and_div_two]
          congr 1; omega
        rw [← e, h])
      refine ⟨k + 1, ?_⟩
      have h3 := low_succ k
      have h4 := low_succ (k + 1)
      have h5 : 2 ^ (k + 1) = 2 * 2 ^ k := by rw [Nat.pow_succ]; omega
      omega
    · exfalso
      have e : (x &&& (x + 1)) / 2 = (x / 2) &&& (x / 2) := by
        rw [Nat.and_div_two]
        congr 1; omega
      rw [h, Nat.and_self] at e
      omega

theorem isLow_iff {x : Nat} (hx : x < 18446744073709551616) : isLow x = true ↔ ∃ k, k ≤ 64 ∧ x = low k := by
  unfold isLow
  rw [beq_iff_eq]
  constructor
  · intro h
    by_cases h1 : x = 18446744073709551615
    · exact ⟨64, by omega, by rw [h1, low_64]⟩
    · rw [Nat.mod_eq_of_lt (by omega)] at h
      obtain ⟨k, hk⟩ := lowones x x (Nat.le_refl _) h
      refine ⟨k, ?_, hk⟩
      rcases Nat.lt_or_ge 64 k with h2 | h2
      · exfalso
        have := Nat.pow_le_pow_right (n := 2) (by omega) (show 65 ≤ k from h2)
        have e : 2 ^ 65 = 36893488147419103232 := by decide
        have := low_succ k
        omega
      · exact h2
  · rintro ⟨k, hk, rfl⟩
    by_cases h1 : k = 64
    · subst h1; rw [low_64]; decide
    · have h2 : low k + 1 < 18446744073709551616 := by
        have := Nat.pow_lt_pow_right (a := 2) (by omega) (show k < 64 by omega)
        have e : 2 ^ 64 = 18446744073709551616 := by decide
        rw [low_succ]; omega
      rw [Nat.mod_eq_of_lt h2, low_succ, and_zero_iff]
      rintro i ⟨h3, h4⟩
      rw [bit_low] at h3
      rw [Nat.testBit_two_pow] at h4
      simp at h3 h4
      omega

/-- numbers without a common bit -/
theorem add_low {a k : Nat} (h : a &&& low k = 0) : a + low k = a ||| low k ∧ a ^^^ low k = a ||| low k := by
  have h1 : a % 2 ^ k = 0 := by rw [← Nat.and_two_pow_sub_one_eq_mod]; exact h
  refine ⟨(nat_join k a (low k) h1 (low_lt k)).symm, ?_⟩
  apply Nat.eq_of_testBit_eq
  intro i
  have := (and_zero_iff _ _).1 h i
  rw [Nat.testBit_xor, Nat.testBit_or]
  revert this
  cases a.testBit i <;> cases (low k).testBit i <;> simp
theorem xor_cancel (a b : Nat) : a ^^^ (a ^^^ b) = b := by
  rw [← Nat.xor_assoc, Nat.xor_self, Nat.zero_xor]

/-- a range that is a block of 2^k numbers -/
theorem block_iff {a b k : Nat} (h : a ≤ b) : (b - a = low k ∧ a &&& low k = 0) ↔ (a ^^^ b = low k ∧ a &&& (a ^^^ b) = 0) := by
  constructor
  · rintro ⟨h1, h2⟩
    have e : b = a ^^^ low k := by rw [(add_low h2).2, ← (add_low h2).1]; omega
    have e2 : a ^^^ b = low k := by rw [e, xor_cancel]
    exact ⟨e2, by rw [e2]; exact h2⟩
  · rintro ⟨h1, h2⟩
    rw [h1] at h2
    have e : b = a ^^^ low k := by rw [← h1, xor_cancel]
    rw [(add_low h2).2, ← (add_low h2).1] at e
    exact ⟨by omega, h2⟩

def newMask (m v : Nat) : K := if m = 0 then ⟨0, 0, 0⟩ else ⟨1, m, v⟩
def newRange (l h : Nat) : K := if isLow (l ^^^ h) = true ∧ l &&& (l ^^^ h) = 0 then newMask (inv (l ^^^ h)) l else ⟨2, l, h⟩
def normK (c : K) : K := if c.kind = 1 then newMask c.a c.b else if c.kind = 2 then newRange c.a c.b else ⟨0, 0, 0⟩
def validK (c : K) : Bool := (c.kind == 0 && c.a == 0 && c.b == 0) || (c.kind == 1 && c.a ||| c.b == c.a) || (c.kind == 2 && decide (c.a ≤ c.b))
def holdsK (c : K) (v : Nat) : Bool := if c.kind = 1 then v &&& c.a == c.b else if c.kind = 2 then decide (c.a ≤ v) && decide (v ≤ c.b) else true

theorem xor_lt {a b : Nat} (h : a < 18446744073709551616) (h' : b < 18446744073709551616) : a ^^^ b < 18446744073709551616 := Nat.xor_lt_two_pow (n := 64) h h'
theorem and_lt {a b : Nat} (h : a < 18446744073709551616) : a &&& b < 18446744073709551616 := Nat.lt_of_le_of_lt Nat.and_le_left h
theorem or_lt {a b : Nat} (h : a < 18446744073709551616) (h' : b < 18446744073709551616) : a ||| b < 18446744073709551616 := Nat.or_lt_two_pow (n := 64) h h'

theorem newRange_block {l h k : Nat} (hk : k ≤ 64) (hlh : l ≤ h) (hh : h < 18446744073709551616) (e : h - l = low k) (e2 : l &&& low k = 0) :
    newRange l h = if k = 64 then ⟨0, 0, 0⟩ else ⟨1, inv (low k), l⟩ := by
  obtain ⟨h1, h2⟩ := (block_iff hlh).1 ⟨e, e2⟩
  have h3 : isLow (l ^^^ h) = true := (isLow_iff (xor_lt (by omega) hh)).2 ⟨k, hk, h1⟩
  unfold newRange newMask
  rw [if_pos ⟨h3, h2⟩, h1]
  by_cases e64 : k = 64
  · subst e64
    rw [if_pos rfl, if_pos (by rw [low_64]; rfl)]
  · rw [if_neg e64, if_neg]
    intro e5
    apply e64
    have := low_le hk
    apply low_inj
    rw [low_64]
    unfold inv at e5
    omega

theorem newRange_none {l h : Nat} (hlh : l ≤ h) (hh : h < 18446744073709551616) (e : ∀ k, k ≤ 64 → ¬ (h - l = low k ∧ l &&& low k = 0)) : newRange l h = ⟨2, l, h⟩ := by
  unfold newRange
  rw [if_neg]
  rintro ⟨h1, h2⟩
  obtain ⟨k, hk, h3⟩ := (isLow_iff (xor_lt (by omega) hh)).1 h1
  exact e k hk ((block_iff hlh).2 ⟨h3, h2⟩)

/-- a valid mask has no bit of its value outside -/
theorem valid_mask {a b : Nat} (h : a ||| b = a) : ∀ i, b.testBit i = true → a.testBit i = true := by
  intro i hi
  rw [← h, Nat.testBit_or, hi, Bool.or_true]
theorem mask_free {a b : Nat} (ha : a < 18446744073709551616) (h : a ||| b = a) : b &&& inv a = 0 := by
  rw [and_zero_iff]
  rintro i ⟨h1, h2⟩
  rw [bit_inv ha, valid_mask h i h1] at h2
  simp at h2

/-- a mask whose set is a range: this range's normal condition is the mask's -/
theorem mask_block {a b : Nat} (ha : a < 18446744073709551616) (h : a ||| b = a) (h1 : isLow (inv a) = true) :
    b + inv a = b ||| inv a ∧ b + inv a < 18446744073709551616 ∧ newRange b (b + inv a) = newMask a b := by
  obtain ⟨k, hk, e⟩ := (isLow_iff (inv_lt a)).1 h1
  have h2 := mask_free ha h
  have hb : b < 18446744073709551616 := by
    have := @Nat.right_le_or a b
    omega
  have h3 := add_low (by rw [← e]; exact h2 : b &&& low k = 0)
  have h4 : b + inv a < 18446744073709551616 := by rw [e, h3.1]; exact or_lt hb (by rw [← e]; exact inv_lt a)
  refine ⟨by rw [e]; exact h3.1, h4, ?_⟩
  obtain ⟨h5, h6⟩ := (block_iff (a := b) (b := b + inv a) (k := k) (by omega)).1 ⟨by omega, by rw [← e]; exact h2⟩
  unfold newRange
  rw [if_pos ⟨by rw [h5, ← e]; exact h1, h6⟩, h5, ← e, inv_inv ha]

theorem bit_shift (v k i : Nat) : (v / 2 ^ k * 2 ^ k).testBit i = (decide (k ≤ i) && v.testBit i) := by
  rw [Nat.testBit_mul_two_pow, Nat.testBit_div_two_pow]
  by_cases h : k ≤ i
  · simp [h, Nat.sub_add_cancel h]
  · simp [h]
theorem and_inv_low {v k : Nat} (hv : v < 18446744073709551616) (hk : k ≤ 64) : v &&& inv (low k) = v / 2 ^ k * 2 ^ k := by
  apply Nat.eq_of_testBit_eq
  intro i
  have := low_le hk
  rw [Nat.testBit_and, bit_inv (by omega), bit_low, bit_shift]
  by_cases h : i < 64
  · by_cases h1 : i < k
    · simp [h, h1, show ¬ k ≤ i by omega]
    · simp [h, h1, show k ≤ i by omega]
  · simp [bit_hi hv (show 64 ≤ i by omega)]
theorem block_mem {v k a : Nat} (hv : v < 18446744073709551616) (hk : k ≤ 64) (ha : a &&& low k = 0) : (v &&& inv (low k) = a) ↔ (a ≤ v ∧ v ≤ a + low k) := by
  have h1 : a % 2 ^ k = 0 := by rw [← Nat.and_two_pow_sub_one_eq_mod]; exact ha
  rw [and_inv_low hv hk]
  have h2 := low_succ k
  have hp := Nat.two_pow_pos k
  obtain ⟨q, hq⟩ : ∃ q, a = 2 ^ k * q := (Nat.dvd_iff_mod_eq_zero.2 h1)
  generalize 2 ^ k = p at *
  constructor
  · intro h
    have h3 := Nat.div_mul_le_self v p
    have h4 := Nat.lt_div_mul_add hp (a := v)
    omega
  · rintro ⟨h3, h4⟩
    have : v / p = q := by
      apply Nat.div_eq_of_lt_le
      · rw [Nat.mul_comm]; omega
      · rw [Nat.add_mul, Nat.mul_comm q p]; omega
    rw [this, Nat.mul_comm, ← hq]

theorem K.valid_cases {c : K} (h : validK c = true) : (c = ⟨0, 0, 0⟩) ∨ (∃ a b, c = ⟨1, a, b⟩ ∧ a ||| b = a) ∨ (∃ a b, c = ⟨2, a, b⟩ ∧ a ≤ b) := by
  obtain ⟨k, a, b⟩ := c
  simp only [validK, Bool.or_eq_true, Bool.and_eq_true, beq_iff_eq, decide_eq_true_eq] at h
  rcases h with (⟨⟨rfl, rfl⟩, rfl⟩ | ⟨rfl, h⟩) | ⟨rfl, h⟩
  · exact .inl rfl
  · exact .inr (.inl ⟨a, b, rfl, h⟩)
  · exact .inr (.inr ⟨a, b, rfl, h⟩)

/-- what a normal condition looks like -/
def Normal (c : K) : Prop := c = ⟨0, 0, 0⟩ ∨ (∃ a b, c = ⟨1, a, b⟩ ∧ a ≠ 0 ∧ a < 18446744073709551616 ∧ a ||| b = a) ∨
  (∃ l h, c = ⟨2, l, h⟩ ∧ l ≤ h ∧ h < 18446744073709551616 ∧ ∀ k, k ≤ 64 → ¬ (h - l = low k ∧ l &&& low k = 0))

theorem newMask_normal {a b : Nat} (ha : a < 18446744073709551616) (h : a ||| b = a) : Normal (newMask a b) := by
  unfold newMask
  by_cases h0 : a = 0
  · rw [if_pos h0]; exact .inl rfl
  · rw [if_neg h0]; exact .inr (.inl ⟨a, b, rfl, h0, ha, h⟩)
theorem or_inv_low {l k : Nat} (hl : l < 18446744073709551616) (hk : k ≤ 64) (h : l &&& low k = 0) : inv (low k) ||| l = inv (low k) := by
  apply Nat.eq_of_testBit_eq
  intro i
  have h0 := low_le hk
  have h1 := (and_zero_iff _ _).1 h i
  rw [Nat.testBit_or, bit_inv (by omega), bit_low]
  rw [bit_low] at h1
  by_cases h2 : i < 64
  · by_cases h3 : i < k
    · simp [h3] at h1; simp [h3, h1]
    · simp [h2, h3]
  · simp [bit_hi hl (show 64 ≤ i by omega)]
theorem newRange_normal {l h : Nat} (hlh : l ≤ h) (hh : h < 18446744073709551616) : Normal (newRange l h) := by
  by_cases e : ∃ k, k ≤ 64 ∧ h - l = low k ∧ l &&& low k = 0
  · obtain ⟨k, hk, e1, e2⟩ := e
    rw [newRange_block hk hlh hh e1 e2]
    by_cases e64 : k = 64
    · rw [if_pos e64]; exact .inl rfl
    · rw [if_neg e64]
      refine .inr (.inl ⟨_, _, rfl, ?_, inv_lt _, or_inv_low (by omega) hk e2⟩)
      intro e5
      apply e64
      have := low_le hk
      apply low_inj
      rw [low_64]
      unfold inv at e5
      omega
  · have e' : ∀ k, k ≤ 64 → ¬ (h - l = low k ∧ l &&& low k = 0) := fun k hk hx => e ⟨k, hk, hx.1, hx.2⟩
    rw [newRange_none hlh hh e']
    exact .inr (.inr ⟨l, h, rfl, hlh, hh, e'⟩)
theorem normK_normal {c : K} (ho : c.ok) (hv : validK c = true) : Normal (normK c) := by
  rcases K.valid_cases hv with rfl | ⟨a, b, rfl, h⟩ | ⟨a, b, rfl, h⟩
  · exact .inl rfl
  · exact newMask_normal ho.2.1 h
  · exact newRange_normal h ho.2.2

theorem Normal.ok {c : K} (h : Normal c) : c.ok := by
  rcases h with rfl | ⟨a, b, rfl, h0, ha, h⟩ | ⟨a, b, rfl, h, hb, _⟩
  · exact K.zero_ok
  · have := @Nat.right_le_or a b
    exact ⟨⟨by simp, by simp⟩, ha, by simp only; omega⟩
  · exact ⟨⟨by simp, by simp⟩, by simp only; omega, hb⟩
theorem Normal.valid {c : K} (h : Normal c) : validK c = true := by
  rcases h with rfl | ⟨a, b, rfl, h0, ha, h⟩ | ⟨a, b, rfl, h, hb, _⟩
  · rfl
  · simp [validK, h]
  · simp [validK, h]
theorem Normal.norm {c : K} (h : Normal c) : normK c = c := by
  rcases h with rfl | ⟨a, b, rfl, h0, ha, h⟩ | ⟨a, b, rfl, h, hb, h2⟩
  · rfl
  · simp [normK, newMask, h0]
  · exact newRange_none h hb h2

theorem holds_mask {a b v : Nat} : holdsK ⟨1, a, b⟩ v = (v &&& a == b) := rfl
theorem holds_range {a b v : Nat} : holdsK ⟨2, a, b⟩ v = (decide (a ≤ v) && decide (v ≤ b)) := rfl
theorem holds_any {v : Nat} : holdsK ⟨0, 0, 0⟩ v = true := rfl

theorem newMask_holds {a b v : Nat} (h : a ||| b = a) : holdsK (newMask a b) v = holdsK ⟨1, a, b⟩ v := by
  unfold newMask
  by_cases h0 : a = 0
  · subst h0
    have : b = 0 := by rw [Nat.zero_or] at h; exact h
    subst this
    rw [if_pos rfl, holds_any, holds_mask, Nat.and_zero]; rfl
  · rw [if_neg h0]
theorem newRange_holds {l h v : Nat} (hlh : l ≤ h) (hh : h < 18446744073709551616) (hv : v < 18446744073709551616) : holdsK (newRange l h) v = holdsK ⟨2, l, h⟩ v := by
  by_cases e : ∃ k, k ≤ 64 ∧ h - l = low k ∧ l &&& low k = 0
  · obtain ⟨k, hk, e1, e2⟩ := e
    have e3 : holdsK (newRange l h) v = (v &&& inv (low k) == l) := by
      obtain ⟨h1, h2⟩ := (block_iff hlh).1 ⟨e1, e2⟩
      have h3 : isLow (l ^^^ h) = true := (isLow_iff (xor_lt (by omega) hh)).2 ⟨k, hk, h1⟩
      unfold newRange
      rw [if_pos ⟨h3, h2⟩, h1, newMask_holds (or_inv_low (by omega) hk e2), holds_mask]
    rw [e3, holds_range]
    have h4 := block_mem hv hk e2
    rw [show l + low k = h by omega] at h4
    rw [Bool.eq_iff_iff, beq_iff_eq, h4]
    simp
  · rw [newRange_none hlh hh fun k hk hx => e ⟨k, hk, hx.1, hx.2⟩]
theorem normK_holds {c : K} {v : Nat} (ho : c.ok) (hv : validK c = true) (h : v < 18446744073709551616) : holdsK (normK c) v = holdsK c v := by
  rcases K.valid_cases hv with rfl | ⟨a, b, rfl, h1⟩ | ⟨a, b, rfl, h1⟩
  · rfl
  · exact newMask_holds h1
  · exact newRange_holds h1 ho.2.2 h

/-- one set within another -/
def Within (a b : K) : Prop := ∀ v, v < 18446744073709551616 → holdsK a v = true → holdsK b v = true

theorem within_norm {a b : K} (ha : a.ok) (hb : b.ok) (va : validK a = true) (vb : validK b = true) : Within (normK a) (normK b) ↔ Within a b := by
  constructor
  · intro h v hv h1
    rw [← normK_holds hb vb hv]; exact h v hv (by rw [normK_holds ha va hv]; exact h1)
  · intro h v hv h1
    rw [normK_holds hb vb hv]; exact h v hv (by rw [← normK_holds ha va hv]; exact h1)

/-- the smallest and the greatest of a set -/
def lowK (c : K) : Nat := if c.kind = 1 then c.b else if c.kind = 2 then c.a else 0
def highK (c : K) : Nat := if c.kind = 1 then c.b ||| inv c.a else if c.kind = 2 then c.b else 18446744073709551615

theorem mask_bits {a b v : Nat} : v &&& a = b ↔ ∀ i, (v.testBit i && a.testBit i) = b.testBit i := by
  constructor
  · rintro rfl i; rw [Nat.testBit_and]
  · intro h; apply Nat.eq_of_testBit_eq; intro i; rw [Nat.testBit_and, h]

theorem le_or_of_bits {x y : Nat} (h : ∀ i, x.testBit i = true → y.testBit i = true) : x ≤ y := by
  have e : x ||| y = y := by
    apply Nat.eq_of_testBit_eq; intro i
    have := h i
    rw [Nat.testBit_or]
    revert this
    cases x.testBit i <;> cases y.testBit i <;> simp
  rw [← e]; exact Nat.left_le_or

theorem bounds_mask {a b : Nat} (ha : a < 18446744073709551616) (h : a ||| b = a) :
    holdsK ⟨1, a, b⟩ b = true ∧ holdsK ⟨1, a, b⟩ (b ||| inv a) = true ∧ ∀ v, v < 18446744073709551616 → holdsK ⟨1, a, b⟩ v = true → b ≤ v ∧ v ≤ b ||| inv a := by
  have hb := valid_mask h
  refine ⟨?_, ?_, fun v hv h1 => ?_⟩
  · rw [holds_mask, beq_iff_eq, mask_bits]
    intro i
    have := hb i
    revert this
    cases a.testBit i <;> cases b.testBit i <;> simp
  · rw [holds_mask, beq_iff_eq, mask_bits]
    intro i
    have := hb i
    rw [Nat.testBit_or, bit_inv ha]
    revert this
    cases a.testBit i <;> cases b.testBit i <;> simp
  · rw [holds_mask, beq_iff_eq, mask_bits] at h1
    constructor
    · apply le_or_of_bits
      intro i hi
      have := h1 i
      rw [hi] at this
      revert this
      cases v.testBit i <;> simp
    · apply le_or_of_bits
      intro i hi
      have h2 := h1 i
      rw [hi] at h2
      rw [Nat.testBit_or, bit_inv ha, ← h2]
      have : i < 64 := by
        rcases Nat.lt_or_ge i 64 with h3 | h3
        · exact h3
        · rw [bit_hi hv h3] at hi; exact absurd hi (by decide)
      simp [this]

theorem bounds_of {c : K} (h : Normal c) : lowK c < 18446744073709551616 ∧ highK c < 18446744073709551616 ∧ holdsK c (lowK c) = true ∧ holdsK c (highK c) = true ∧ ∀ v, v < 18446744073709551616 → holdsK c v = true → lowK c ≤ v ∧ v ≤ highK c := by
  have ho := h.ok
  rcases h with rfl | ⟨a, b, rfl, h0, ha, h⟩ | ⟨a, b, rfl, h, hb, h2⟩
  · exact ⟨by decide, by decide, rfl, rfl, fun v hv _ => ⟨by simp [lowK], by simp [highK]; omega⟩⟩
  · exact ⟨ho.2.2, or_lt ho.2.2 (inv_lt _), bounds_mask ha h⟩
  · refine ⟨ho.2.1, hb, ?_, ?_, fun v hv h1 => ?_⟩
    · simp [holds_range, lowK, h]
    · simp [holds_range, highK, h]
    · simpa [holds_range, lowK, highK] using h1
end Go.Proofs.YtjbbiailhpkdeaaDoor
namespace Go.Proofs.YtjbbiailhpkdeaaDoor
set_option linter.unusedVariables false

/-- so many bits a number has -/
def lenN (x : Nat) : Nat := if x = 0 then 0 else Nat.log2 x + 1
theorem lenN_lt (x : Nat) : x < 2 ^ lenN x := by
  unfold lenN
  by_cases h : x = 0
  · rw [if_pos h, h]; decide
  · rw [if_neg h]; exact Nat.lt_log2_self
theorem lenN_ge {x : Nat} (h : x ≠ 0) : 2 ^ (lenN x - 1) ≤ x := by
  unfold lenN
  rw [if_neg h, Nat.add_sub_cancel]; exact Nat.log2_self_le h
theorem lenN_le {x : Nat} (h : x < 18446744073709551616) : lenN x ≤ 64 := by
  unfold lenN
  by_cases h0 : x = 0
  · rw [if_pos h0]; omega
  · rw [if_neg h0]
    have : Nat.log2 x < 64 := (Nat.log2_lt h0).2 h
    omega
theorem lenN_uniq {x n : Nat} (h : x < 2 ^ n) (h1 : n = 0 ∨ 2 ^ (n - 1) ≤ x) : lenN x = n := by
  unfold lenN
  by_cases h0 : x = 0
  · subst h0
    rw [if_pos rfl]
    rcases h1 with rfl | h1
    · rfl
    · exact absurd h1 (by have := Nat.two_pow_pos (n - 1); omega)
  · rw [if_neg h0]
    rcases h1 with rfl | h1
    · simp at h; omega
    · have h2 : Nat.log2 x < n := (Nat.log2_lt h0).2 h
      have h3 : n - 1 ≤ Nat.log2 x := (Nat.le_log2 h0).2 h1
      omega

/-- all numbers of a range agree in the bits from the length on -/
theorem range_top {l h x n : Nat} (e : l ^^^ h < 2 ^ n) (h1 : l ≤ x) (h2 : x ≤ h) {i : Nat} (hi : n ≤ i) : x.testBit i = l.testBit i := by
  have e1 : l / 2 ^ n = h / 2 ^ n := by
    have e2 : (l ^^^ h) / 2 ^ n = 0 := Nat.div_eq_of_lt e
    rw [Nat.xor_div_two_pow] at e2
    have e6 := xor_cancel (l / 2 ^ n) (h / 2 ^ n)
    rw [e2, Nat.xor_zero] at e6; exact e6
  have e3 : l / 2 ^ n ≤ x / 2 ^ n := Nat.div_le_div_right h1
  have e4 : x / 2 ^ n ≤ h / 2 ^ n := Nat.div_le_div_right h2
  have e5 : x / 2 ^ n = l / 2 ^ n := by omega
  have b1 : (x / 2 ^ n).testBit (i - n) = x.testBit (i - n + n) := Nat.testBit_div_two_pow x (i - n)
  have b2 : (l / 2 ^ n).testBit (i - n) = l.testBit (i - n + n) := Nat.testBit_div_two_pow l (i - n)
  rw [e5, b2, Nat.sub_add_cancel hi] at b1
  exact b1.symm

/-- and it has both values of every bit below -/
theorem range_low {l h : Nat} (hlh : l ≤ h) (h0 : l ^^^ h ≠ 0) : ∃ y, l ≤ y ∧ y + 1 ≤ h ∧ ∀ i, i < lenN (l ^^^ h) → y.testBit i ≠ (y + 1).testBit i := by
  have hlt := lenN_lt (l ^^^ h)
  have hge := lenN_ge h0
  have hn : 0 < lenN (l ^^^ h) := by unfold lenN; rw [if_neg h0]; omega
  obtain ⟨m, hm⟩ : ∃ m, lenN (l ^^^ h) = m + 1 := ⟨lenN (l ^^^ h) - 1, by omega⟩
  rw [hm] at hlt hge ⊢
  rw [Nat.add_sub_cancel] at hge
  have hp := Nat.two_pow_pos m
  have e1 : (l ^^^ h) / 2 ^ m = 1 := by
    apply Nat.div_eq_of_lt_le
    · omega
    · rw [Nat.pow_succ] at hlt; omega
  rw [Nat.xor_div_two_pow] at e1
  have e2 : h / 2 ^ m = l / 2 ^ m ^^^ 1 := by rw [← e1, xor_cancel]
  have e3 : l / 2 ^ m ≤ h / 2 ^ m := Nat.div_le_div_right hlh
  have e4 : (h / 2 ^ m) / 2 = (l / 2 ^ m) / 2 := by rw [e2, Nat.xor_div_two]; simp
  have e5 : (h / 2 ^ m) % 2 = (l / 2 ^ m + 1) % 2 := by
    have e9 : (h / 2 ^ m).testBit 0 = ((l / 2 ^ m).testBit 0 ^^ (1 : Nat).testBit 0) := by rw [e2, Nat.testBit_xor]
    rw [Nat.testBit_zero, Nat.testBit_zero, Nat.testBit_zero] at e9
    rcases Nat.mod_two_eq_zero_or_one (l / 2 ^ m) with g | g <;> rw [g] at e9 <;> simp at e9 <;> omega
  have e6 : ∃ q, l / 2 ^ m = 2 * q ∧ h / 2 ^ m = 2 * q + 1 := ⟨(l / 2 ^ m) / 2, by omega, by omega⟩
  obtain ⟨q, e7, e8⟩ := e6
  have l1 := Nat.lt_div_mul_add hp (a := l)
  have h1 := Nat.div_mul_le_self h (2 ^ m)
  rw [e7] at l1
  rw [e8] at h1
  have hl := low_succ m
  refine ⟨2 ^ m * (2 * q) + low m, ?_, ?_, fun i hi => ?_⟩
  · rw [Nat.mul_comm (2 ^ m)]; omega
  · rw [Nat.add_mul, Nat.one_mul] at h1
    rw [Nat.mul_comm (2 ^ m)]; omega
  · have y1 : 2 ^ m * (2 * q) + low m + 1 = 2 ^ m * (2 * q + 1) + 0 := by rw [Nat.mul_add, Nat.mul_one]; omega
    rw [y1, Nat.testBit_two_pow_mul_add _ (low_lt m), Nat.testBit_two_pow_mul_add _ hp]
    by_cases hi2 : i < m
    · rw [if_pos hi2, if_pos hi2, bit_low]; simp [hi2]
    · have : i = m := by omega
      subst this
      rw [if_neg hi2, if_neg hi2, Nat.sub_self, Nat.testBit_zero, Nat.testBit_zero]
      have a1 : 2 * q % 2 = 0 := by omega
      have a2 : (2 * q + 1) % 2 = 1 := by omega
      simp

/-- the bits in which all numbers of a set agree, and their value -/
def agreeM (c : K) : Nat := if c.kind = 1 then c.a else if c.kind = 2 then inv (low (lenN (c.a ^^^ c.b))) else 0
def agreeV (c : K) : Nat := if c.kind = 1 then c.b else if c.kind = 2 then c.a &&& inv (low (lenN (c.a ^^^ c.b))) else 0
def withinI (a b : K) : Bool :=
  if b.kind = 1 then (agreeM a &&& b.a == b.a) && (agreeV a &&& b.a == b.b) else if b.kind = 2 then decide (b.a ≤ lowK a) && decide (highK a ≤ b.b) else true

theorem bit_lt64 {x : Nat} (h : x < 18446744073709551616) {i : Nat} (hi : x.testBit i = true) : i < 64 := by
  rcases Nat.lt_or_ge i 64 with h1 | h1
  · exact h1
  · rw [bit_hi h h1] at hi; exact absurd hi (by decide)

theorem range_mask {l h m v : Nat} (hlh : l ≤ h) (hh : h < 18446744073709551616) (hm : m < 18446744073709551616) :
    Within ⟨2, l, h⟩ ⟨1, m, v⟩ ↔ (inv (low (lenN (l ^^^ h))) &&& m = m ∧ l &&& inv (low (lenN (l ^^^ h))) &&& m = v) := by
  have hx := xor_lt (show l < 18446744073709551616 by omega) hh
  have hn := lenN_le hx
  have hlt := lenN_lt (l ^^^ h)
  have bi : ∀ i, (inv (low (lenN (l ^^^ h)))).testBit i = (decide (i < 64) && !decide (i < lenN (l ^^^ h))) := fun i => by
    rw [bit_inv (by have := low_le hn; omega), bit_low]
  have key : (inv (low (lenN (l ^^^ h))) &&& m = m) → l &&& inv (low (lenN (l ^^^ h))) &&& m = l &&& m := fun e => by rw [Nat.and_assoc, e]
  constructor
  · intro hw
    have w : ∀ x, l ≤ x → x ≤ h → x &&& m = v := fun x h1 h2 => by
      have := hw x (by omega) (by rw [holds_range]; simp [h1, h2])
      rwa [holds_mask, beq_iff_eq] at this
    have e : inv (low (lenN (l ^^^ h))) &&& m = m := by
      rw [and_eq_iff]
      intro i hi
      rw [bi]
      by_cases h1 : i < lenN (l ^^^ h)
      · exfalso
        have h0 : l ^^^ h ≠ 0 := fun h0 => by rw [h0] at h1; exact absurd h1 (by unfold lenN; simp)
        obtain ⟨y, y1, y2, y3⟩ := range_low hlh h0
        have b1 := mask_bits.1 (w y y1 (by omega)) i
        have b2 := mask_bits.1 (w (y + 1) (by omega) y2) i
        rw [hi, Bool.and_true] at b1 b2
        exact y3 i h1 (b1.trans b2.symm)
      · simp [h1, bit_lt64 hm hi]
    exact ⟨e, by rw [key e]; exact w l (Nat.le_refl _) hlh⟩
  · rintro ⟨e, e2⟩ x hxl hx2
    rw [holds_range] at hx2
    simp only [Bool.and_eq_true, decide_eq_true_eq] at hx2
    rw [holds_mask, beq_iff_eq, ← e2, key e]
    apply Nat.eq_of_testBit_eq
    intro i
    rw [Nat.testBit_and, Nat.testBit_and]
    by_cases hi : m.testBit i = true
    · have := (and_eq_iff _ _).1 e i hi
      rw [bi] at this
      simp at this
      rw [range_top hlt hx2.1 hx2.2 this.2]
    · rw [Bool.not_eq_true] at hi; rw [hi, Bool.and_false, Bool.and_false]

theorem flip_lt {x i : Nat} (h : x < 18446744073709551616) (hi : i < 64) : x ^^^ 2 ^ i < 18446744073709551616 :=
  xor_lt h (Nat.pow_lt_pow_right (a := 2) (by omega) hi)

theorem mask_mask {am av m v : Nat} (ha : am < 18446744073709551616) (hm : m < 18446744073709551616) (h : am ||| av = am) :
    Within ⟨1, am, av⟩ ⟨1, m, v⟩ ↔ (am &&& m = m ∧ av &&& m = v) := by
  have hb := valid_mask h
  have hav : av < 18446744073709551616 := by have := @Nat.right_le_or am av; omega
  have in0 := (bounds_mask ha h).1
  constructor
  · intro hw
    have e0 := hw av hav in0
    rw [holds_mask, beq_iff_eq] at e0
    refine ⟨?_, e0⟩
    rw [and_eq_iff]
    intro i hi
    cases hc : am.testBit i with
    | true => rfl
    | false =>
      exfalso
      have i64 := bit_lt64 hm hi
      have e1 := hw (av ^^^ 2 ^ i) (flip_lt hav i64) (by
        rw [holds_mask, beq_iff_eq, mask_bits]
        intro j
        rw [holds_mask, beq_iff_eq, mask_bits] at in0
        rw [Nat.testBit_xor, Nat.testBit_two_pow]
        by_cases hj : i = j
        · subst hj; rw [hc, Bool.and_false, ← in0 i, hc, Bool.and_false]
        · have := in0 j
          rw [decide_eq_false hj, Bool.xor_false]; exact this)
      rw [holds_mask, beq_iff_eq] at e1
      have b0 := mask_bits.1 e0 i
      have b1 := mask_bits.1 e1 i
      rw [hi, Bool.and_true] at b0 b1
      rw [Nat.testBit_xor, Nat.testBit_two_pow, ← b0] at b1
      simp at b1
  · rintro ⟨e1, e2⟩ x hx h1
    rw [holds_mask, beq_iff_eq] at h1
    rw [holds_mask, beq_iff_eq, ← e2, ← h1, Nat.and_assoc, e1]

theorem within_range {a : K} {l h : Nat} (ha : Normal a) : Within a ⟨2, l, h⟩ ↔ (l ≤ lowK a ∧ highK a ≤ h) := by
  obtain ⟨h1, h2, h3, h4, h5⟩ := bounds_of ha
  constructor
  · intro hw
    have e1 := hw _ h1 h3
    have e2 := hw _ h2 h4
    rw [holds_range] at e1 e2
    simp at e1 e2
    exact ⟨e1.1, e2.2⟩
  · rintro ⟨e1, e2⟩ v hv h6
    have := h5 v hv h6
    rw [holds_range]
    simp; omega

theorem withinI_iff {a b : K} (ha : Normal a) (hb : Normal b) : withinI a b = true ↔ Within a b := by
  rcases hb with rfl | ⟨m, v, rfl, h0, hm, h⟩ | ⟨l, h, rfl, hlh, hh, h2⟩
  · simp only [withinI]; simp; intro v hv h1; rfl
  · have e : withinI a ⟨1, m, v⟩ = ((agreeM a &&& m == m) && (agreeV a &&& m == v)) := rfl
    rw [e, Bool.and_eq_true, beq_iff_eq, beq_iff_eq]
    rcases ha with rfl | ⟨am, av, rfl, h0', ham, h'⟩ | ⟨l, h', rfl, hlh, hh, h2⟩
    · have e1 : Within ⟨0, 0, 0⟩ ⟨1, m, v⟩ ↔ Within ⟨1, 0, 0⟩ ⟨1, m, v⟩ := by
        unfold Within
        constructor
        · intro hw x hx _; exact hw x hx rfl
        · intro hw x hx _; exact hw x hx (by rw [holds_mask, Nat.and_zero]; rfl)
      rw [e1, mask_mask (by omega) hm rfl]; rfl
    · rw [mask_mask ham hm h']; rfl
    · rw [range_mask hlh hh hm]; rfl
  · have e : withinI a ⟨2, l, h⟩ = (decide (l ≤ lowK a) && decide (highK a ≤ h)) := rfl
    rw [e, within_range ha]; simp

/-- a mask whose set is all between its bounds -/
theorem mask_unbroken {a b : Nat} (ha : a < 18446744073709551616) (h : a ||| b = a) (hw : Within ⟨2, b, b ||| inv a⟩ ⟨1, a, b⟩) : isLow (inv a) = true := by
  have hb : b < 18446744073709551616 := by have := @Nat.right_le_or a b; omega
  have hle : b ≤ b ||| inv a := Nat.left_le_or
  have hx : b ^^^ (b ||| inv a) = inv a := by
    apply Nat.eq_of_testBit_eq
    intro i
    rw [Nat.testBit_xor, Nat.testBit_or]
    have := (and_zero_iff _ _).1 (mask_free ha h) i
    revert this
    cases b.testBit i <;> cases (inv a).testBit i <;> simp
  have hw2 := (range_mask hle (or_lt hb (inv_lt a)) ha).1 hw
  rw [hx] at hw2
  have hn := lenN_le (inv_lt a)
  refine (isLow_iff (inv_lt a)).2 ⟨lenN (inv a), hn, ?_⟩
  apply Nat.eq_of_testBit_eq
  intro i
  rw [bit_low]
  by_cases hi : i < lenN (inv a)
  · rw [decide_eq_true hi, bit_inv ha]
    cases hc : a.testBit i with
    | false => simp; omega
    | true =>
      exfalso
      have := (and_eq_iff _ _).1 hw2.1 i hc
      rw [bit_inv (by have := low_le hn; omega), bit_low] at this
      simp [hi] at this
  · rw [decide_eq_false hi]
    exact Nat.testBit_lt_two_pow (Nat.lt_of_lt_of_le (lenN_lt _) (Nat.pow_le_pow_right (by omega) (by omega)))

/-- equal sets, equal normal conditions -/
theorem normal_uniq {a b : K} (ha : Normal a) (hb : Normal b) (h1 : Within a b) (h2 : Within b a) : a = b := by
  have all_mask : ∀ {m v : Nat}, m ≠ 0 → m < 18446744073709551616 → m ||| v = m → Within ⟨0, 0, 0⟩ ⟨1, m, v⟩ → False := by
    intro m v h0 hm h hw
    have := (withinI_iff (.inl rfl) (.inr (.inl ⟨m, v, rfl, h0, hm, h⟩))).2 hw
    have e : withinI ⟨0, 0, 0⟩ ⟨1, m, v⟩ = ((0 &&& m == m) && (0 &&& m == v)) := rfl
    rw [e, Bool.and_eq_true, beq_iff_eq, Nat.zero_and] at this
    exact h0 this.1.symm
  have all_range : ∀ {l h : Nat}, h < 18446744073709551616 → (∀ k, k ≤ 64 → ¬ (h - l = low k ∧ l &&& low k = 0)) → Within ⟨0, 0, 0⟩ ⟨2, l, h⟩ → False := by
    intro l h hh h2 hw
    have := (within_range (a := ⟨0, 0, 0⟩) (.inl rfl)).1 hw
    simp only [lowK, highK] at this
    simp at this
    refine h2 64 (by omega) ⟨by rw [low_64]; omega, by rw [this.1, Nat.zero_and]⟩
  have mask_range : ∀ {m v l h : Nat}, m ≠ 0 → m < 18446744073709551616 → m ||| v = m → l ≤ h → h < 18446744073709551616 → (∀ k, k ≤ 64 → ¬ (h - l = low k ∧ l &&& low k = 0)) → Within ⟨1, m, v⟩ ⟨2, l, h⟩ → Within ⟨2, l, h⟩ ⟨1, m, v⟩ → False := by
    intro m v l h h0 hm hv hlh hh h2 hw1 hw2
    obtain ⟨i1, i2, i3⟩ := bounds_mask hm hv
    have hvl : v < 18446744073709551616 := by have := @Nat.right_le_or m v; omega
    have e1 := hw1 _ hvl i1
    have e2 := hw1 _ (or_lt hvl (inv_lt m)) i2
    have e3 := i3 l (by omega) (hw2 l (by omega) (by rw [holds_range]; simp [hlh]))
    have e4 := i3 h hh (hw2 h hh (by rw [holds_range]; simp [hlh]))
    rw [holds_range] at e1 e2
    simp at e1 e2
    have el : l = v := by omega
    have eh : h = v ||| inv m := by omega
    subst el eh
    have hlow := mask_unbroken hm hv hw2
    obtain ⟨k, hk, ek⟩ := (isLow_iff (inv_lt m)).1 hlow
    have := mask_block hm hv hlow
    have hf := mask_free hm hv
    exact h2 k hk ⟨by rw [← this.1, ← ek]; omega, by rw [← ek]; exact hf⟩
  rcases ha with rfl | ⟨m, v, rfl, h0, hm, hv⟩ | ⟨l, h, rfl, hlh, hh, hn⟩
  · rcases hb with rfl | ⟨m', v', rfl, h0', hm', hv'⟩ | ⟨l', h', rfl, hlh', hh', hn'⟩
    · rfl
    · exact (all_mask h0' hm' hv' h1).elim
    · exact (all_range hh' hn' h1).elim
  · rcases hb with rfl | ⟨m', v', rfl, h0', hm', hv'⟩ | ⟨l', h', rfl, hlh', hh', hn'⟩
    · exact (all_mask h0 hm hv h2).elim
    · have e1 := (mask_mask hm hm' hv).1 h1
      have e2 := (mask_mask hm' hm hv').1 h2
      have em : m = m' := by rw [← e2.1, Nat.and_comm]; exact e1.1
      subst em
      have i1 := (bounds_mask hm hv).1
      rw [holds_mask, beq_iff_eq] at i1
      rw [show v = v' from i1.symm.trans e1.2]
    · exact (mask_range h0 hm hv hlh' hh' hn' h1 h2).elim
  · rcases hb with rfl | ⟨m', v', rfl, h0', hm', hv'⟩ | ⟨l', h', rfl, hlh', hh', hn'⟩
    · exact (all_range hh hn h2).elim
    · exact (mask_range h0' hm' hv' hlh hh hn h2 h1).elim
    · have e1 := (within_range (.inr (.inr ⟨l, h, rfl, hlh, hh, hn⟩))).1 h1
      have e2 := (within_range (.inr (.inr ⟨l', h', rfl, hlh', hh', hn'⟩))).1 h2
      have g1 : l' ≤ l ∧ h ≤ h' := e1
      have g2 : l ≤ l' ∧ h' ≤ h := e2
      rw [show l = l' by omega, show h = h' by omega]

/-! the model's way -/

def blockK (c : K) : Option (Nat × Nat) := if c.kind = 0 then some (0, 18446744073709551615) else if c.kind = 2 then some (c.a, c.b) else if isLow (inv c.a) then some (c.b, c.b + inv c.a) else none

theorem block_holds {c : K} {lo hi v : Nat} (ho : c.ok) (hv : validK c = true) (h : blockK c = some (lo, hi)) (hb : v < 18446744073709551616) : holdsK c v = true ↔ (lo ≤ v ∧ v ≤ hi) := by
  rcases K.valid_cases hv with rfl | ⟨a, b, rfl, h1⟩ | ⟨a, b, rfl, h1⟩
  · simp [blockK] at h; obtain ⟨rfl, rfl⟩ := h
    simp [holds_any]; omega
  · have h2 : (if isLow (inv a) then some (b, b + inv a) else none) = some (lo, hi) := h
    by_cases h3 : isLow (inv a) = true
    · rw [if_pos h3] at h2
      simp at h2; obtain ⟨rfl, rfl⟩ := h2
      obtain ⟨e1, e2, e3⟩ := mask_block ho.2.1 h1 h3
      rw [← newMask_holds h1, ← e3, newRange_holds (by omega) e2 hb, holds_range]
      simp
    · rw [if_neg h3] at h2; exact absurd h2 (by simp)
  · simp [blockK] at h; obtain ⟨rfl, rfl⟩ := h
    rw [holds_range]; simp
theorem block_lt {c : K} {lo hi : Nat} (ho : c.ok) (hv : validK c = true) (h : blockK c = some (lo, hi)) : lo ≤ hi ∧ hi < 18446744073709551616 := by
  rcases K.valid_cases hv with rfl | ⟨a, b, rfl, h1⟩ | ⟨a, b, rfl, h1⟩
  · simp [blockK] at h; omega
  · have h2 : (if isLow (inv a) then some (b, b + inv a) else none) = some (lo, hi) := h
    by_cases h3 : isLow (inv a) = true
    · rw [if_pos h3] at h2
      simp at h2; obtain ⟨rfl, rfl⟩ := h2
      obtain ⟨e1, e2, e3⟩ := mask_block ho.2.1 h1 h3
      exact ⟨by omega, e2⟩
    · rw [if_neg h3] at h2; exact absurd h2 (by simp)
  · simp [blockK] at h; obtain ⟨rfl, rfl⟩ := h
    exact ⟨h1, ho.2.2⟩

/-- the least number from one on that is not in the set -/
def OutK (c : K) (f v : Nat) (s : Bool) : Prop :=
  if s then f ≤ v ∧ v < 18446744073709551616 ∧ holdsK c v = false ∧ ∀ x, f ≤ x → x < v → holdsK c x = true
  else ∀ x, f ≤ x → x < 18446744073709551616 → holdsK c x = true

theorem out_within {c d : K} {lo hi v : Nat} {s : Bool} (ho : c.ok) (hv : validK c = true) (h : blockK c = some (lo, hi)) (h1 : OutK d lo v s) : ((!s || decide (hi < v)) = true ↔ Within c d) := by
  have hl := block_lt ho hv h
  have hb := fun {x} (hx : x < 18446744073709551616) => block_holds ho hv h hx
  cases s with
  | false =>
    have h2 : ∀ x, lo ≤ x → x < 18446744073709551616 → holdsK d x = true := h1
    simp
    intro x hx h3
    exact h2 x ((hb hx).1 h3).1 hx
  | true =>
    obtain ⟨h2, h3, h4, h5⟩ : lo ≤ v ∧ v < 18446744073709551616 ∧ holdsK d v = false ∧ ∀ x, lo ≤ x → x < v → holdsK d x = true := h1
    simp
    constructor
    · intro h6 x hx h7
      have := (hb hx).1 h7
      exact h5 x this.1 (by omega)
    · intro hw
      rcases Nat.lt_or_ge hi v with h6 | h6
      · exact h6
      · have := hw v h3 ((hb h3).2 ⟨h2, h6⟩)
        rw [h4] at this; exact absurd this (by decide)

theorem out_range {l h f : Nat} (hf : f < 18446744073709551616) (hh : h < 18446744073709551616) (h1 : holdsK ⟨2, l, h⟩ f = true) : OutK ⟨2, l, h⟩ f (if h = 18446744073709551615 then 0 else h + 1) (decide (h ≠ 18446744073709551615)) := by
  rw [holds_range] at h1
  simp at h1
  by_cases e : h = 18446744073709551615
  · rw [if_pos e]
    simp only [OutK, e]
    simp
    intro x hx hx2
    rw [holds_range]; simp; omega
  · rw [if_neg e, decide_eq_true (show h ≠ 18446744073709551615 from e)]
    refine ⟨by omega, by omega, ?_, fun x hx hx2 => ?_⟩
    · rw [holds_range]; simp
    · rw [holds_range]; simp; omega

theorem out_mask {a b f k : Nat} (hf : f < 18446744073709551616) (ha : a < 18446744073709551616) (hk : k < 64) (h1 : holdsK ⟨1, a, b⟩ f = true) (h2 : a.testBit k = true) (h3 : ∀ j, j < k → a.testBit j = false) :
    OutK ⟨1, a, b⟩ f (if f ||| low k = 18446744073709551615 then 0 else (f ||| low k) + 1) (decide (f ||| low k ≠ 18446744073709551615)) := by
  have h1' := h1
  rw [holds_mask, beq_iff_eq] at h1
  have hlk := low_le (show k ≤ 64 by omega)
  have hfl : f ||| low k < 18446744073709551616 := or_lt hf (by omega)
  have hq : f ||| low k = 2 ^ k * (f / 2 ^ k) + low k := by
    apply Nat.eq_of_testBit_eq
    intro i
    rw [Nat.testBit_or, Nat.testBit_two_pow_mul_add _ (low_lt k), bit_low, Nat.testBit_div_two_pow]
    by_cases h : i < k
    · simp [h]
    · simp [h, Nat.sub_add_cancel (show k ≤ i by omega)]
  have inside : ∀ x, f ≤ x → x ≤ f ||| low k → holdsK ⟨1, a, b⟩ x = true := by
    intro x hx1 hx2
    have hxor : f ^^^ (f ||| low k) < 2 ^ k := by
      apply Nat.lt_pow_two_of_testBit
      intro i hi
      rw [Nat.testBit_xor, Nat.testBit_or, bit_low]
      simp [show ¬ i < k by omega]
    rw [holds_mask, beq_iff_eq, ← h1]
    apply Nat.eq_of_testBit_eq
    intro i
    rw [Nat.testBit_and, Nat.testBit_and]
    by_cases hi : i < k
    · rw [h3 i hi, Bool.and_false, Bool.and_false]
    · rw [range_top hxor hx1 hx2 (by omega)]
  by_cases e : f ||| low k = 18446744073709551615
  · rw [if_pos e]
    simp only [OutK, e]
    simp
    intro x hx hx2
    exact inside x hx (by omega)
  · rw [if_neg e]
    have hle : f ≤ f ||| low k := Nat.left_le_or
    rw [decide_eq_true (show f ||| low k ≠ 18446744073709551615 from e)]
    refine ⟨by omega, by omega, ?_, fun x hx hx2 => inside x hx (by omega)⟩
    rw [holds_mask]
    cases hc : ((f ||| low k) + 1 &&& a == b) with
    | false => rfl
    | true =>
      exfalso
      rw [beq_iff_eq] at hc
      have b1 := mask_bits.1 hc k
      have b2 := mask_bits.1 h1 k
      rw [h2, Bool.and_true] at b1 b2
      have e2 : (f ||| low k) + 1 = 2 ^ k * (f / 2 ^ k + 1) + 0 := by
        have := low_succ k
        rw [hq, Nat.mul_add, Nat.mul_one]; omega
      rw [e2, Nat.testBit_two_pow_mul_add _ (Nat.two_pow_pos k), if_neg (by omega), Nat.sub_self, ← b2] at b1
      have e3 : f.testBit k = (f / 2 ^ k).testBit 0 := by rw [Nat.testBit_div_two_pow, Nat.zero_add]
      rw [e3, Nat.testBit_zero, Nat.testBit_zero] at b1
      simp at b1
      omega
theorem out_free {b f : Nat} (h1 : holdsK ⟨1, 0, b⟩ f = true) : OutK ⟨1, 0, b⟩ f 0 false := by
  intro x hx hx2
  rw [holds_mask, Nat.and_zero] at h1 ⊢; exact h1
theorem out_any {f : Nat} : OutK ⟨0, 0, 0⟩ f 0 false := fun x _ _ => rfl
theorem out_first {c : K} {f : Nat} (hf : f < 18446744073709551616) (h : holdsK c f = false) : OutK c f f true := ⟨Nat.le_refl _, hf, h, fun x h1 h2 => by omega⟩
theorem zero_of_bits {a : Nat} (ha : a < 18446744073709551616) (h : ∀ j, j < 64 → a.testBit j = false) : a = 0 := by
  apply Nat.eq_of_testBit_eq
  intro i
  rw [Nat.zero_testBit]
  rcases Nat.lt_or_ge i 64 with h1 | h1
  · exact h i h1
  · exact bit_hi ha h1

/-- mask within mask, bit by bit -/
theorem mask_mask_bits {am av m v : Nat} (ha : am < 18446744073709551616) (hm : m < 18446744073709551616) (h : am ||| av = am) (h' : m ||| v = m) :
    Within ⟨1, am, av⟩ ⟨1, m, v⟩ ↔ ∀ k, k < 64 → m.testBit k = true → am.testBit k = true ∧ av.testBit k = v.testBit k := by
  rw [mask_mask ha hm h]
  constructor
  · rintro ⟨e1, e2⟩ k hk hb
    refine ⟨(and_eq_iff _ _).1 e1 k hb, ?_⟩
    have := mask_bits.1 e2 k
    rw [hb, Bool.and_true] at this; exact this
  · intro e
    refine ⟨(and_eq_iff _ _).2 fun i hi => (e i (bit_lt64 hm hi) hi).1, mask_bits.2 fun i => ?_⟩
    cases hc : m.testBit i with
    | true => rw [Bool.and_true]; exact (e i (bit_lt64 hm hc) hc).2
    | false =>
      rw [Bool.and_false]
      cases hd : v.testBit i with
      | false => rfl
      | true => rw [valid_mask h' i hd] at hc; exact absurd hc (by decide)
theorem mask_any {am av : Nat} : Within ⟨1, am, av⟩ ⟨0, 0, 0⟩ := fun v _ _ => rfl
theorem mask_in_range {am av l h : Nat} (ha : am < 18446744073709551616) (hv : am ||| av = am) : Within ⟨1, am, av⟩ ⟨2, l, h⟩ ↔ (l ≤ av ∧ av ||| inv am ≤ h) := by
  obtain ⟨h3, h4, h5⟩ := bounds_mask ha hv
  have hav : av < 18446744073709551616 := by have := @Nat.right_le_or am av; omega
  constructor
  · intro hw
    have e1 := hw _ hav h3
    have e2 := hw _ (or_lt hav (inv_lt am)) h4
    rw [holds_range] at e1 e2
    simp at e1 e2
    exact ⟨e1.1, e2.2⟩
  · rintro ⟨e1, e2⟩ v hv h6
    have := h5 v hv h6
    rw [holds_range]
    simp; omega
theorem and_bit (x k : Nat) : (x &&& 2 ^ k = 0) ↔ x.testBit k = false := by
  rw [and_zero_iff]
  constructor
  · intro h
    have := h k
    rw [Nat.testBit_two_pow_self] at this
    simpa using this
  · rintro h i ⟨h1, h2⟩
    rw [Nat.testBit_two_pow] at h2
    have : k = i := by simpa using h2
    subst this
    rw [h] at h1; exact absurd h1 (by decide)
theorem and_bit_eq (x y k : Nat) : (x &&& 2 ^ k = y &&& 2 ^ k) ↔ x.testBit k = y.testBit k := by
  constructor
  · intro h
    have e : (x &&& 2 ^ k).testBit k = (y &&& 2 ^ k).testBit k := by rw [h]
    rw [Nat.testBit_and, Nat.testBit_and, Nat.testBit_two_pow_self, Bool.and_true, Bool.and_true] at e
    exact e
  · intro h
    apply Nat.eq_of_testBit_eq
    intro i
    rw [Nat.testBit_and, Nat.testBit_and, Nat.testBit_two_pow]
    by_cases hi : k = i
    · subst hi; rw [h]
    · rw [decide_eq_false hi, Bool.and_false, Bool.and_false]
end Go.Proofs.YtjbbiailhpkdeaaDoor
namespace Go.Proofs.YtjbbiailhpkdeaaDoor
open Go.RowKit
set_option linter.unusedVariables false

abbrev conV (c : K) : Value := .agg #[.int .i64 c.kind, .int .u64 (c.a : Int), .int .u64 (c.b : Int)]

theorem u64_and (a b : Nat) (ha : a < 18446744073709551616) (hb : b < 18446744073709551616) : bits .and .u64 (a : Int) (b : Int) = ((a &&& b : Nat) : Int) := bits_and_u64_nat a b ha hb
theorem u64_or (a b : Nat) (ha : a < 18446744073709551616) (hb : b < 18446744073709551616) : bits .or .u64 (a : Int) (b : Int) = ((a ||| b : Nat) : Int) := bits_or_u64_nat a b ha hb

theorem beq_cast (a b : Nat) : ((a : Int) == (b : Int)) = (a == b) := by rw [Bool.eq_iff_iff, beq_iff_eq, beq_iff_eq]; omega
theorem beq_cast0 (a : Nat) : ((a : Int) == 0) = (a == 0) := by rw [Bool.eq_iff_iff, beq_iff_eq, beq_iff_eq]; omega

end Go.Proofs.YtjbbiailhpkdeaaDoor
namespace Go.Proofs.YtjbbiailhpkdeaaDoor
open Go.RowKit
set_option linter.unusedVariables false

/-- what the model's block says -/
def blkV (c : K) : Value := match blockK c with | some (lo, hi) => .tuple #[.int .u64 (lo : Int), .int .u64 (hi : Int), .bool true] | none => .tuple #[.int .u64 0, .int .u64 0, .bool false]

/-- a condition's own box -/
structure BoxK (w : World) (g : Nat) (x y z : Value) : Prop where
  lt : g < w.heap.size
  c0 : w.cell? ⟨g, 0, none⟩ = some x
  c1 : w.cell? ⟨g, 1, none⟩ = some y
  c2 : w.cell? ⟨g, 2, none⟩ = some z
  f0 : w.frozen? ⟨g, 0, none⟩ = false
  f1 : w.frozen? ⟨g, 1, none⟩ = false
  f2 : w.frozen? ⟨g, 2, none⟩ = false

theorem BoxK.keep {w w1 : World} {g : Nat} {x y z : Value} (h : BoxK w g x y z) (hb : Below w.heap.size w w1) : BoxK w1 g x y z :=
  ⟨Nat.lt_of_lt_of_le h.lt hb.size, (hb.cell (p := ⟨g, 0, none⟩) h.lt).trans h.c0, (hb.cell (p := ⟨g, 1, none⟩) h.lt).trans h.c1, (hb.cell (p := ⟨g, 2, none⟩) h.lt).trans h.c2,
    (hb.frozen (p := ⟨g, 0, none⟩) h.lt).trans h.f0, (hb.frozen (p := ⟨g, 1, none⟩) h.lt).trans h.f1, (hb.frozen (p := ⟨g, 2, none⟩) h.lt).trans h.f2⟩
theorem BoxK.new (w : World) (t : TypeId) (x y z : Value) : BoxK (w.alloc (.cells #[x, y, z] t)) w.heap.size x y z :=
  ⟨by simp, by simp, by simp, by simp, by simp, by simp, by simp⟩
theorem BoxK.drew {w : World} {g : Nat} {x y z : Value} (h : BoxK w g x y z) : BoxK w.drew g x y z := h.keep (Below.refl _ _).drew
theorem BoxK.alloc {w : World} {g : Nat} {x y z : Value} (h : BoxK w g x y z) (o : Obj) : BoxK (w.alloc o) g x y z := h.keep ((Below.refl _ _).alloc (Nat.le_refl _) o)

theorem wrap_sub_ones {L : Nat} (h : L ≤ 18446744073709551615) : IntKind.u64.wrap (18446744073709551615 - (L : Int)) = 18446744073709551615 - (L : Int) := by
  rw [IntKind.wrap_u64]; omega
theorem wrap_add_nat {a b : Nat} (h : a + b < 18446744073709551616) : IntKind.u64.wrap ((a : Int) + (b : Int)) = ((a + b : Nat) : Int) := by
  rw [IntKind.wrap_u64]; omega

theorem normK_of_block {c : K} {lo hi : Nat} (ho : c.ok) (hv : validK c = true) (h : blockK c = some (lo, hi)) : normK c = newRange lo hi := by
  rcases K.valid_cases hv with rfl | ⟨a, b, rfl, h1⟩ | ⟨a, b, rfl, h1⟩
  · simp [blockK] at h; obtain ⟨rfl, rfl⟩ := h
    rw [newRange_block (k := 64) (by omega) (by omega) (by omega) (by rw [low_64]) (by rw [Nat.zero_and])]; rfl
  · have h2 : (if isLow (inv a) then some (b, b + inv a) else none) = some (lo, hi) := h
    by_cases h3 : isLow (inv a) = true
    · rw [if_pos h3] at h2
      simp at h2; obtain ⟨rfl, rfl⟩ := h2
      rw [(mask_block ho.2.1 h1 h3).2.2]; rfl
    · rw [if_neg h3] at h2; exact absurd h2 (by simp)
  · simp [blockK] at h; obtain ⟨rfl, rfl⟩ := h
    rfl
theorem normK_of_none {c : K} (ho : c.ok) (hv : validK c = true) (h : blockK c = none) : normK c = c := by
  rcases K.valid_cases hv with rfl | ⟨a, b, rfl, h1⟩ | ⟨a, b, rfl, h1⟩
  · simp [blockK] at h
  · have h2 : (if isLow (inv a) then some (b, b + inv a) else none) = none := h
    by_cases h3 : isLow (inv a) = true
    · rw [if_pos h3] at h2; exact absurd h2 (by simp)
    · have : a ≠ 0 := fun e => h3 (by rw [e]; decide)
      simp [normK, newMask, this]
  · simp [blockK] at h
end Go.Proofs.YtjbbiailhpkdeaaDoor
namespace Go.Proofs.YtjbbiailhpkdeaaDoor
open Go.RowKit
set_option linter.unusedVariables false

/-- a store of three cells into a box -/
theorem BoxK.set3 {w : World} {g : Nat} {x y z : Value} (h : BoxK w g x y z) (x' y' z' : Value) : BoxK (((w.setCell ⟨g, 0, none⟩ x').setCell ⟨g, 1, none⟩ y').setCell ⟨g, 2, none⟩ z') g x' y' z' := by
  obtain ⟨l, c0, c1, c2, f0, f1, f2⟩ := h
  refine ⟨by simp [l], ?_, ?_, ?_, by simp [f0], by simp [f1], by simp [f2]⟩
  · simp [go_sem, c0]
  · simp [go_sem, c1]
  · simp [go_sem, c2]
theorem below_set3 {n : Nat} {w w' : World} {g : Nat} (h : Below n w w') (hg : n ≤ g) (x' y' z' : Value) : Below n w (((w'.setCell ⟨g, 0, none⟩ x').setCell ⟨g, 1, none⟩ y').setCell ⟨g, 2, none⟩ z') :=
  ((h.setCell hg _).setCell hg _).setCell hg _

end Go.Proofs.YtjbbiailhpkdeaaDoor
namespace Go.Proofs.YtjbbiailhpkdeaaDoor
open Go.RowKit
set_option linter.unusedVariables false

/-- a reader in block R -/
def Rdr (w : World) (R : Nat) : Prop := ∃ a cap l j, Rd w R a cap l j
def isU (x : Int) : Prop := 0 ≤ x ∧ x ≤ 18446744073709551615
theorem isU_bits (op : BinOp) (a b : Int) : isU (bits op .u64 a b) := ⟨bits_lo_u64 op a b, bits_hi_u64 op a b⟩
theorem isU_wrap (a : Int) : isU (IntKind.u64.wrap a) := by rw [IntKind.wrap_u64]; unfold isU; omega

theorem Rdr.lt {w : World} {R : Nat} (h : Rdr w R) : R < w.heap.size := by obtain ⟨a, cap, l, j, h⟩ := h; exact h.lt
theorem Rdr.below {w w1 : World} {R : Nat} (h : Rdr w R) (hb : Below w.heap.size w w1) : Rdr w1 R := by
  obtain ⟨a, cap, l, j, h⟩ := h; exact ⟨a, cap, l, j, h.below hb⟩
theorem Rdr.own {w w1 : World} {R B : Nat} {row : Option Nat} (h : Rdr w R) (hg : w.grownBy w1 row) (hR : R < B) (hr : ∀ k, row = some k → B ≤ k) : Rdr w1 R := by
  obtain ⟨a, cap, l, j, h⟩ := h; exact ⟨a, cap, l, j, h.grown hg hR hr⟩

/-- what a drawing function leaves: the reader, and nothing else of what was there changed -/
structure Dr (w : World) (R : Nat) (w' : World) : Prop where
  rd : Rdr w' R
  gr : w.grownBy w' (some R)
theorem Dr.refl {w : World} {R : Nat} (h : Rdr w R) : Dr w R w := ⟨h, World.grownBy.refl _ _⟩
theorem Dr.trans {w w1 w2 : World} {R : Nat} (h : Dr w R w1) (h' : Dr w1 R w2) : Dr w R w2 := ⟨h'.rd, rb_trans h.gr h'.gr⟩

def DrU (w : World) (R : Nat) (e : Ending) (w' : World) : Prop := ∃ x : Int, isU x ∧ e = .returned (.int .u64 x) ∧ Dr w R w'
theorem DrU.mk {w : World} {R : Nat} {x : Int} {w' : World} (h : isU x) (hd : Dr w R w') : DrU w R (.returned (.int .u64 x)) w' := ⟨x, h, rfl, hd⟩

theorem next_dr (R : Nat) (w : World) (h : Rdr w R) : Calls Tryd.prog 20 #[.pointer (some ⟨R, 0, none⟩)] w fun e w' => ∃ c : Int, 0 ≤ c ∧ c ≤ 255 ∧ e = .returned (.int .i64 c) ∧ Dr w R w' := by
  obtain ⟨a, cap, l, j, h⟩ := h
  refine (next_any R cap a l j w h).mono ?_
  rintro e w' ⟨rfl, h1, h2⟩
  have := isBytes_getD h.bys j
  exact ⟨_, this.1, this.2, rfl, ⟨⟨_, _, _, _, h1⟩, h2⟩⟩

theorem wordV_range (l : List Int) (hl : isBytes l) (j : Nat) : 0 ≤ wordV l j ∧ wordV l j ≤ 4294967295 := by
  have hx := isBytes_getD hl j
  unfold wordV
  have hp : ∀ k : Nat, k < 32 → (1 : Int) ≤ 2 ^ k ∧ (2 : Int) ^ k ≤ 4294967295 := by decide
  have := hp (l.getD j 0 % 32).toNat (by omega)
  split
  · omega
  · split
    · omega
    · split
      · omega
      · split <;> omega

theorem word_dr (R : Nat) (w : World) (h : Rdr w R) : Calls Tryd.prog 57 #[.pointer (some ⟨R, 0, none⟩)] w fun e w' => ∃ c : Int, 0 ≤ c ∧ c ≤ 4294967295 ∧ e = .returned (.int .u32 c) ∧ Dr w R w' := by
  obtain ⟨a, cap, l, j, h⟩ := h
  refine (drawWord_any R cap a l j w h).mono ?_
  rintro e w' ⟨rfl, h1, h2⟩
  have := wordV_range l h.bys j
  exact ⟨_, this.1, this.2, rfl, ⟨⟨_, _, _, _, h1⟩, h2⟩⟩

set_option maxRecDepth 100000 in
set_option maxHeartbeats 2000000 in
theorem arg_dr (R : Nat) (w : World) (h : Rdr w R) : Calls Tryd.prog 58 #[.pointer (some ⟨R, 0, none⟩)] w (DrU w R) := by
  have HN : Hid (∀ w, Rdr w R → Calls Tryd.prog 20 #[.pointer (some ⟨R, 0, none⟩)] w fun e w' => ∃ c : Int, 0 ≤ c ∧ c ≤ 255 ∧ e = .returned (.int .i64 c) ∧ Dr w R w') := fun w h => next_dr R w h
  have HW : Hid (∀ w, Rdr w R → Calls Tryd.prog 57 #[.pointer (some ⟨R, 0, none⟩)] w fun e w' => ∃ c : Int, 0 ≤ c ∧ c ≤ 4294967295 ∧ e = .returned (.int .u32 c) ∧ Dr w R w') := fun w h => word_dr R w h
  go_enter Tryd.func58, Tryd.ntmps58
  go_wp2_with fail
  refine (HN.out _ h).mono ?_
  rintro _ w1 ⟨c, c0, c1, rfl, D1⟩
  go_wp2_with fail
  all_goals first
    | (go_ret; exact DrU.mk (by first | exact isU_wrap _ | exact isU_bits _ _ _ | (unfold isU; omega)) D1)
    | (refine (HW.out _ D1.rd).mono ?_
       rintro _ w2 ⟨a, a0, a1, rfl, D2⟩
       go_wp2_with fail
       refine (HW.out _ D2.rd).mono ?_
       rintro _ w3 ⟨b, b0, b1, rfl, D3⟩
       go_wp2
       go_ret
       exact DrU.mk (isU_bits _ _ _) (D1.trans (D2.trans D3)))

set_option maxRecDepth 100000 in
set_option maxHeartbeats 2000000 in
theorem near_dr (R : Nat) (v : Int) (w : World) (hv : isU v) (h : Rdr w R) : Calls Tryd.prog 46 #[.int .u64 v, .pointer (some ⟨R, 0, none⟩)] w (DrU w R) := by
  have HN : Hid (∀ w, Rdr w R → Calls Tryd.prog 20 #[.pointer (some ⟨R, 0, none⟩)] w fun e w' => ∃ c : Int, 0 ≤ c ∧ c ≤ 255 ∧ e = .returned (.int .i64 c) ∧ Dr w R w') := fun w h => next_dr R w h
  have HA : Hid (∀ w, Rdr w R → Calls Tryd.prog 58 #[.pointer (some ⟨R, 0, none⟩)] w (DrU w R)) := fun w h => arg_dr R w h
  have HV : Hid (isU v) := hv
  have hv0 := hv.1
  have hv1 := hv.2
  clear hv
  go_enter Tryd.func46, Tryd.ntmps46
  go_wp2_with fail
  refine (HN.out _ h).mono ?_
  rintro _ w1 ⟨c, c0, c1, rfl, D1⟩
  go_wp2_with fail
  all_goals first
    | (go_ret; exact DrU.mk (by first | exact HV.out | exact isU_wrap _ | exact isU_bits _ _ _ | (unfold isU; omega)) D1)
    | (refine (HA.out _ D1.rd).mono ?_
       rintro _ w2 ⟨x, hx, rfl, D2⟩
       go_wp2
       go_ret
       exact DrU.mk hx (D1.trans D2))
end Go.Proofs.YtjbbiailhpkdeaaDoor
namespace Go.Proofs.YtjbbiailhpkdeaaDoor
open Go.RowKit
set_option linter.unusedVariables false

/-- a drawn argument, and where the reader stands behind it -/
def argV (l : List Int) (j : Nat) : Int :=
  if l.getD j 0 < 120 then l.getD j 0 % 12 else if l.getD j 0 < 150 then l.getD j 0 % 3 * 4294967296 else if l.getD j 0 < 170 then 18446744073709551615 - l.getD j 0 % 3
  else if l.getD j 0 < 190 then 2 ^ (l.getD j 0 * 7 % 64).toNat else if l.getD j 0 < 215 then 140733193392128 + l.getD j 0 % 16 * 4096 else if l.getD j 0 < 225 then 4294967295 + l.getD j 0 % 3
  else bits .xor .u64 (wordV l (j + 1) * 4294967297) (wordV l (wordJ l (j + 1)))
def argJ (l : List Int) (j : Nat) : Nat := if l.getD j 0 < 225 then j + 1 else wordJ l (wordJ l (j + 1))

theorem pow_64 : ∀ k : Nat, k < 64 → (2 : Int) ^ k ≤ 9223372036854775808 ∧ (2 : Int) ^ k % 18446744073709551616 = 2 ^ k ∧ 0 ≤ (2 : Int) ^ k := by decide

theorem argV_isU (l : List Int) (hl : isBytes l) (j : Nat) : isU (argV l j) := by
  have hx := isBytes_getD hl j
  unfold argV
  split
  · unfold isU; omega
  split
  · unfold isU; omega
  split
  · unfold isU; omega
  split
  · have := pow_64 (l.getD j 0 * 7 % 64).toNat (by omega)
    unfold isU; omega
  split
  · unfold isU; omega
  split
  · unfold isU; omega
  · exact isU_bits _ _ _

set_option maxRecDepth 100000 in
set_option maxHeartbeats 2000000 in
theorem arg_any (R cap : Nat) (a : Option Addr) (l : List Int) (j : Nat) (w : World) (hR : Rd w R a cap l j) :
    Calls Tryd.prog 58 #[.pointer (some ⟨R, 0, none⟩)] w fun e w' => e = .returned (.int .u64 (argV l j)) ∧ Rd w' R a cap l (argJ l j) ∧ w.grownBy w' (some R) := by
  have hx := isBytes_getD hR.bys j
  have HN1 : Hid (∀ W, Rd W R a cap l j → Calls Tryd.prog 20 #[.pointer (some ⟨R, 0, none⟩)] W fun e w' => e = .returned (.int .i64 (l.getD j 0)) ∧ Rd w' R a cap l (j + 1) ∧ W.grownBy w' (some R)) := fun W h => next_any R cap a l j W h
  have HW1 : Hid (∀ W, Rd W R a cap l (j + 1) → Calls Tryd.prog 57 #[.pointer (some ⟨R, 0, none⟩)] W fun e w' => e = .returned (.int .u32 (wordV l (j + 1))) ∧ Rd w' R a cap l (wordJ l (j + 1)) ∧ W.grownBy w' (some R)) := fun W h => drawWord_any R cap a l (j + 1) W h
  have HW2 : Hid (∀ W, Rd W R a cap l (wordJ l (j + 1)) → Calls Tryd.prog 57 #[.pointer (some ⟨R, 0, none⟩)] W fun e w' => e = .returned (.int .u32 (wordV l (wordJ l (j + 1)))) ∧ Rd w' R a cap l (wordJ l (wordJ l (j + 1))) ∧ W.grownBy w' (some R)) := fun W h => drawWord_any R cap a l (wordJ l (j + 1)) W h
  obtain ⟨ha0, ha1⟩ := wordV_range l hR.bys (j + 1)
  obtain ⟨hb0, hb1⟩ := wordV_range l hR.bys (wordJ l (j + 1))
  obtain ⟨V, hV⟩ : ∃ V, argV l j = V := ⟨_, rfl⟩
  obtain ⟨J, hJ⟩ : ∃ J, argJ l j = J := ⟨_, rfl⟩
  rw [hV, hJ]
  unfold argV at hV
  unfold argJ at hJ
  generalize l.getD j 0 = x at *
  generalize wordV l (j + 1) = y at *
  generalize wordV l (wordJ l (j + 1)) = z at *
  generalize wordJ l (wordJ l (j + 1)) = J3 at *
  generalize wordJ l (j + 1) = J2 at *
  have HV : Hid _ := hV
  have HJ : Hid _ := hJ
  clear hV hJ
  go_enter Tryd.func58, Tryd.ntmps58
  go_wp2_with fail
  refine (HN1.out _ hR).mono ?_
  rintro _ w1 ⟨rfl, hR1, hg1⟩
  by_cases c1 : x < 120
  · have hV : V = x % 12 := by rw [← HV.out, if_pos c1]
    have hJ : J = j + 1 := by rw [← HJ.out, if_pos (by omega)]
    subst hV hJ
    clear HV HJ HW1 HW2
    go_wp2
    go_ret
    exact ⟨rfl, hR1, hg1⟩
  by_cases c2 : x < 150
  · have hV : V = x % 3 * 4294967296 := by rw [← HV.out, if_neg c1, if_pos c2]
    have hJ : J = j + 1 := by rw [← HJ.out, if_pos (by omega)]
    subst hV hJ
    clear HV HJ HW1 HW2
    go_wp2
    go_ret
    exact ⟨rfl, hR1, hg1⟩
  by_cases c3 : x < 170
  · have hV : V = 18446744073709551615 - x % 3 := by rw [← HV.out, if_neg c1, if_neg c2, if_pos c3]
    have hJ : J = j + 1 := by rw [← HJ.out, if_pos (by omega)]
    subst hV hJ
    clear HV HJ HW1 HW2
    go_wp2
    go_ret
    exact ⟨rfl, hR1, hg1⟩
  by_cases c4 : x < 190
  · have hV : V = 2 ^ (x * 7 % 64).toNat := by rw [← HV.out, if_neg c1, if_neg c2, if_neg c3, if_pos c4]
    have hJ : J = j + 1 := by rw [← HJ.out, if_pos (by omega)]
    subst hV hJ
    clear HV HJ HW1 HW2
    go_wp2
    go_ret
    refine ⟨ret_int ?_, hR1, hg1⟩
    have hp := (pow_64 (x * 7 % 64).toNat (by omega)).2.1
    first | exact hp | (rw [IntKind.wrap_u64]; exact hp)
  by_cases c5 : x < 215
  · have hV : V = 140733193392128 + x % 16 * 4096 := by rw [← HV.out, if_neg c1, if_neg c2, if_neg c3, if_neg c4, if_pos c5]
    have hJ : J = j + 1 := by rw [← HJ.out, if_pos (by omega)]
    subst hV hJ
    clear HV HJ HW1 HW2
    go_wp2
    go_ret
    exact ⟨rfl, hR1, hg1⟩
  by_cases c6 : x < 225
  · have hV : V = 4294967295 + x % 3 := by rw [← HV.out, if_neg c1, if_neg c2, if_neg c3, if_neg c4, if_neg c5, if_pos c6]
    have hJ : J = j + 1 := by rw [← HJ.out, if_pos c6]
    subst hV hJ
    clear HV HJ HW1 HW2
    go_wp2
    go_ret
    exact ⟨rfl, hR1, hg1⟩
  · have hV : V = bits .xor .u64 (y * 4294967297) z := by rw [← HV.out, if_neg c1, if_neg c2, if_neg c3, if_neg c4, if_neg c5, if_neg c6]
    have hJ : J = J3 := by rw [← HJ.out, if_neg c6]
    subst hV hJ
    clear HV HJ
    go_wp2_with fail
    refine (HW1.out _ hR1).mono ?_
    rintro _ w2 ⟨rfl, hR2, hg2⟩
    go_wp2_with fail
    refine (HW2.out _ hR2).mono ?_
    rintro _ w3 ⟨rfl, hR3, hg3⟩
    go_wp2
    go_ret
    exact ⟨rfl, hR3, rb_trans hg1 (rb_trans hg2 hg3)⟩

def nearV (v : Int) (l : List Int) (j : Nat) : Int :=
  if l.getD j 0 % 8 < 3 then v else if l.getD j 0 % 8 = 3 then (v + 1) % 18446744073709551616 else if l.getD j 0 % 8 = 4 then (v - 1) % 18446744073709551616
  else if l.getD j 0 % 8 = 5 then bits .xor .u64 v (2 ^ (l.getD j 0 / 8 % 8).toNat) else if l.getD j 0 % 8 = 6 then bits .xor .u64 v (2 ^ (l.getD j 0 % 64).toNat) else argV l (j + 1)
def nearJ (l : List Int) (j : Nat) : Nat := if l.getD j 0 % 8 < 7 then j + 1 else argJ l (j + 1)

theorem nearV_isU {v : Int} (hv : isU v) (l : List Int) (hl : isBytes l) (j : Nat) : isU (nearV v l j) := by
  unfold nearV
  split
  · exact hv
  split
  · unfold isU; omega
  split
  · unfold isU; omega
  split
  · exact isU_bits _ _ _
  split
  · exact isU_bits _ _ _
  · exact argV_isU l hl _

set_option maxRecDepth 100000 in
set_option maxHeartbeats 2000000 in
theorem near_any (v : Int) (R cap : Nat) (a : Option Addr) (l : List Int) (j : Nat) (w : World) (hv : isU v) (hR : Rd w R a cap l j) :
    Calls Tryd.prog 46 #[.int .u64 v, .pointer (some ⟨R, 0, none⟩)] w fun e w' => e = .returned (.int .u64 (nearV v l j)) ∧ Rd w' R a cap l (nearJ l j) ∧ w.grownBy w' (some R) := by
  have hx := isBytes_getD hR.bys j
  have HN1 : Hid (∀ W, Rd W R a cap l j → Calls Tryd.prog 20 #[.pointer (some ⟨R, 0, none⟩)] W fun e w' => e = .returned (.int .i64 (l.getD j 0)) ∧ Rd w' R a cap l (j + 1) ∧ W.grownBy w' (some R)) := fun W h => next_any R cap a l j W h
  have HA : Hid (∀ W, Rd W R a cap l (j + 1) → Calls Tryd.prog 58 #[.pointer (some ⟨R, 0, none⟩)] W fun e w' => e = .returned (.int .u64 (argV l (j + 1))) ∧ Rd w' R a cap l (argJ l (j + 1)) ∧ W.grownBy w' (some R)) := fun W h => arg_any R cap a l (j + 1) W h
  obtain ⟨hv0, hv1⟩ := hv
  obtain ⟨V, hV⟩ : ∃ V, nearV v l j = V := ⟨_, rfl⟩
  obtain ⟨J, hJ⟩ : ∃ J, nearJ l j = J := ⟨_, rfl⟩
  rw [hV, hJ]
  unfold nearV at hV
  unfold nearJ at hJ
  generalize l.getD j 0 = x at *
  generalize argV l (j + 1) = y at *
  generalize argJ l (j + 1) = J2 at *
  have HV : Hid _ := hV
  have HJ : Hid _ := hJ
  clear hV hJ
  go_enter Tryd.func46, Tryd.ntmps46
  go_wp2_with fail
  refine (HN1.out _ hR).mono ?_
  rintro _ w1 ⟨rfl, hR1, hg1⟩
  by_cases c1 : x % 8 < 3
  · have hV : V = v := by rw [← HV.out, if_pos c1]
    have hJ : J = j + 1 := by rw [← HJ.out, if_pos (by omega)]
    subst hV hJ
    clear HV HJ HA
    go_wp2
    go_ret
    exact ⟨rfl, hR1, hg1⟩
  by_cases c2 : x % 8 = 3
  · have hV : V = (v + 1) % 18446744073709551616 := by rw [← HV.out, if_neg c1, if_pos c2]
    have hJ : J = j + 1 := by rw [← HJ.out, if_pos (by omega)]
    subst hV hJ
    clear HV HJ HA
    go_wp2
    go_ret
    refine ⟨ret_int ?_, hR1, hg1⟩
    first | rfl | (rw [IntKind.wrap_u64])
  by_cases c3 : x % 8 = 4
  · have hV : V = (v - 1) % 18446744073709551616 := by rw [← HV.out, if_neg c1, if_neg c2, if_pos c3]
    have hJ : J = j + 1 := by rw [← HJ.out, if_pos (by omega)]
    subst hV hJ
    clear HV HJ HA
    go_wp2
    go_ret
    refine ⟨ret_int ?_, hR1, hg1⟩
    first | rfl | (rw [IntKind.wrap_u64])
  by_cases c4 : x % 8 = 5
  · have hV : V = bits .xor .u64 v (2 ^ (x / 8 % 8).toNat) := by rw [← HV.out, if_neg c1, if_neg c2, if_neg c3, if_pos c4]
    have hJ : J = j + 1 := by rw [← HJ.out, if_pos (by omega)]
    have hp : IntKind.u64.wrap ((2 : Int) ^ (x / 8 % 8).toNat) = 2 ^ (x / 8 % 8).toNat := by rw [IntKind.wrap_u64]; exact (pow_64 (x / 8 % 8).toNat (by omega)).2.1
    subst hV hJ
    clear HV HJ HA
    go_wp2
    go_ret
    refine ⟨ret_int ?_, hR1, hg1⟩
    first | rfl | (rw [hp])
  by_cases c5 : x % 8 = 6
  · have hV : V = bits .xor .u64 v (2 ^ (x % 64).toNat) := by rw [← HV.out, if_neg c1, if_neg c2, if_neg c3, if_neg c4, if_pos c5]
    have hJ : J = j + 1 := by rw [← HJ.out, if_pos (by omega)]
    have hp : IntKind.u64.wrap ((2 : Int) ^ (x % 64).toNat) = 2 ^ (x % 64).toNat := by rw [IntKind.wrap_u64]; exact (pow_64 (x % 64).toNat (by omega)).2.1
    subst hV hJ
    clear HV HJ HA
    go_wp2
    go_ret
    refine ⟨ret_int ?_, hR1, hg1⟩
    first | rfl | (rw [hp])
  · have hV : V = y := by rw [← HV.out, if_neg c1, if_neg c2, if_neg c3, if_neg c4, if_neg c5]
    have hJ : J = J2 := by rw [← HJ.out, if_neg (by omega)]
    subst hV hJ
    clear HV HJ
    go_wp2_with fail
    refine (HA.out _ hR1).mono ?_
    rintro _ w2 ⟨rfl, hR2, hg2⟩
    go_wp2
    go_ret
    exact ⟨rfl, hR2, rb_trans hg1 hg2⟩
end Go.Proofs.YtjbbiailhpkdeaaDoor
