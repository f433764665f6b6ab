/-
  PLAIN MATHEMATICS of the log's bytes: numbers, bodies, frames, the whole log; records. No Go in sight.
-/
import Derived.Test.YtjkmcdgjhfiklaaMathS
namespace Go.Proofs.Ytjkmcdgjhfiklaa
set_option linter.unusedVariables false

/-- one call: its numbers -/
structure C where
  arch : Int
  nr : Int
  args : List Int

def isU64 (v : Int) : Prop := 0 ≤ v ∧ v ≤ 18446744073709551615
def C.ok (x : C) : Prop := 0 ≤ x.arch ∧ x.arch ≤ 4294967295 ∧ 0 ≤ x.nr ∧ x.nr ≤ 4294967295 ∧ ∀ v ∈ x.args, isU64 v
def C.zero : C := ⟨0, 0, []⟩
theorem C.zero_ok : C.zero.ok := ⟨by decide, by decide, by decide, by decide, fun v h => by simp [C.zero] at h⟩

/-- a number in digits of seven bits, the lowest first, at most n of them -/
def varF : Nat → Int → List Int
  | 0, _ => []
  | n + 1, v => if v < 128 then [v] else (v % 128 + 128) :: varF n (v / 128)
def varL (v : Int) : List Int := varF 10 v

theorem varF_lo {n : Nat} {v : Int} (h : v < 128) : varF (n + 1) v = [v] := by simp [varF, h]
theorem varF_hi {n : Nat} {v : Int} (h : ¬ v < 128) : varF (n + 1) v = (v % 128 + 128) :: varF n (v / 128) := by simp [varF, h]
theorem varF_len (n : Nat) (v : Int) : (varF n v).length ≤ n := by
  induction n generalizing v with
  | zero => simp [varF]
  | succ n ih =>
    unfold varF
    split
    · simp
    · have := ih (v / 128); simp; exact this
theorem varF_pos (n : Nat) (v : Int) : 1 ≤ (varF (n + 1) v).length := by
  unfold varF
  split <;> simp
theorem varF_ok (n : Nat) {v : Int} (h : 0 ≤ v) : isBytes (varF n v) := by
  induction n generalizing v with
  | zero => intro x hx; simp [varF] at hx
  | succ n ih =>
    intro x hx
    unfold varF at hx
    split at hx
    · simp at hx; omega
    · simp only [List.mem_cons] at hx
      rcases hx with rfl | hx
      · omega
      · exact ih (by omega) x hx
/-- enough digits are enough -/
theorem varF_fit (n m : Nat) {v : Int} (h0 : 0 ≤ v) (h : v < ((128 ^ (n + 1) : Nat) : Int)) (h1 : n + 1 ≤ m) : varF m v = varF (n + 1) v := by
  induction n generalizing m v with
  | zero =>
    obtain ⟨m, rfl⟩ : ∃ m', m = m' + 1 := ⟨m - 1, by omega⟩
    have h2 : v < 128 := by simpa using h
    rw [varF_lo h2, varF_lo h2]
  | succ n ih =>
    obtain ⟨m, rfl⟩ : ∃ m', m = m' + 1 := ⟨m - 1, by omega⟩
    by_cases h2 : v < 128
    · rw [varF_lo h2, varF_lo h2]
    · rw [varF_hi h2, varF_hi h2, ih m (v := v / 128) (by omega) (by rw [Nat.pow_succ] at h; omega) (by omega)]
theorem varL_len (v : Int) : (varL v).length ≤ 10 := varF_len 10 v
theorem varL_len5 {v : Int} (h0 : 0 ≤ v) (h : v ≤ 4294967295) : (varL v).length ≤ 5 := by
  unfold varL
  rw [varF_fit 4 10 h0 (by have : 128 ^ 5 = 34359738368 := by decide
                           omega) (by omega)]
  exact varF_len 5 v
theorem varL_pos (v : Int) : 1 ≤ (varL v).length := varF_pos 9 v
theorem varL_ok {v : Int} (h : 0 ≤ v) : isBytes (varL v) := varF_ok 10 h

def argsB (l : List Int) : List Int := l.flatMap varL
def bodyL (c : C) : List Int := varL c.arch ++ varL c.nr ++ argsB c.args
theorem argsB_take {l : List Int} {k : Nat} (h : k < l.length) : argsB (l.take (k + 1)) = argsB (l.take k) ++ varL (l.getD k 0) := by
  unfold argsB
  rw [List.take_succ_eq_append_getElem h, List.flatMap_append]
  simp [List.getElem?_eq_getElem h]
theorem argsB_len (l : List Int) : l.length ≤ (argsB l).length ∧ (argsB l).length ≤ 10 * l.length := by
  induction l with
  | nil => simp [argsB]
  | cons x l ih =>
    have h1 := varL_len x
    have h2 := varL_pos x
    simp only [argsB, List.flatMap_cons, List.length_append, List.length_cons] at *
    omega
theorem bodyL_len {c : C} (h : c.ok) : c.args.length + 2 ≤ (bodyL c).length ∧ (bodyL c).length ≤ 10 + 10 * c.args.length := by
  obtain ⟨h1, h2, h3, h4, _⟩ := h
  have a := varL_len5 h1 h2
  have b := varL_len5 h3 h4
  have a' := varL_pos c.arch
  have b' := varL_pos c.nr
  have d := argsB_len c.args
  simp only [bodyL, List.length_append]
  omega
theorem argsB_ok {l : List Int} (h : ∀ v ∈ l, isU64 v) : isBytes (argsB l) := by
  intro x hx
  simp only [argsB, List.mem_flatMap] at hx
  obtain ⟨v, hv, hx⟩ := hx
  exact varL_ok (h v hv).1 x hx
theorem isBytes_append {l m : List Int} (h : isBytes l) (h' : isBytes m) : isBytes (l ++ m) := by
  intro x hx
  rcases List.mem_append.1 hx with hx | hx
  · exact h x hx
  · exact h' x hx
theorem bodyL_ok {c : C} (h : c.ok) : isBytes (bodyL c) :=
  isBytes_append (isBytes_append (varL_ok h.1) (varL_ok h.2.2.1)) (argsB_ok h.2.2.2.2)

def frameL (b : List Int) : List Int := [((b.length % 256 : Nat) : Int)] ++ b ++ littleL (sumL b) 4
theorem frameL_len (b : List Int) : (frameL b).length = b.length + 5 := by simp [frameL, littleL_len]
def framesL (cs : List C) : List Int := cs.flatMap fun c => frameL (bodyL c)
def logL (cs : List C) : List Int := [67, 76, 79, 71, 1] ++ littleL cs.length 2 ++ framesL cs
theorem framesL_take {cs : List C} {k : Nat} (h : k < cs.length) : framesL (cs.take (k + 1)) = framesL (cs.take k) ++ frameL (bodyL (cs.getD k C.zero)) := by
  unfold framesL
  rw [List.take_succ_eq_append_getElem h, List.flatMap_append]
  simp [List.getElem?_eq_getElem h]
def six (c : C) : Bool := c.args.length == 6
def callsOk (cs : List C) : Bool := decide (cs.length ≤ 1000) && cs.all six
def encLog (cs : List C) : List Int := if callsOk cs then logL cs else []
theorem framesL_len {cs : List C} (h : ∀ c ∈ cs, c.ok) (h6 : ∀ c ∈ cs, c.args.length = 6) : (framesL cs).length ≤ 75 * cs.length := by
  induction cs with
  | nil => simp [framesL]
  | cons c cs ih =>
    have h1 := bodyL_len (h c (by simp))
    have h2 := h6 c (by simp)
    have h3 := ih (fun x hx => h x (by simp [hx])) (fun x hx => h6 x (by simp [hx]))
    simp only [framesL, List.flatMap_cons, List.length_append, List.length_cons, frameL_len] at *
    omega
theorem logL_len {cs : List C} (h : ∀ c ∈ cs, c.ok) (h6 : ∀ c ∈ cs, c.args.length = 6) : (logL cs).length ≤ 7 + 75 * cs.length := by
  have := framesL_len h h6
  simp [logL, littleL_len]; omega

/-- the bytes of a record -/
def longsB (l : List Int) : List Int := l.flatMap fun v => littleL v 8
theorem longsB_take {l : List Int} {k : Nat} (h : k < l.length) : longsB (l.take (k + 1)) = longsB (l.take k) ++ littleL (l.getD k 0) 8 := by
  unfold longsB
  rw [List.take_succ_eq_append_getElem h, List.flatMap_append]
  simp [List.getElem?_eq_getElem h]
theorem longsB_len (l : List Int) : (longsB l).length = 8 * l.length := by
  induction l with
  | nil => rfl
  | cons x l ih => simp only [longsB, List.flatMap_cons, List.length_append, List.length_cons, littleL_len] at *; omega
def recB (c : C) (ip : Int) : List Int := if c.args.length = 6 then littleL c.nr 4 ++ littleL c.arch 4 ++ littleL ip 8 ++ longsB c.args else []

/-- four bytes at once, eight bytes at once -/
theorem little4_eq {v : Int} (h : 0 ≤ v) (h1 : v ≤ 4294967295) : littleL v 4 = [v % 256, v / 256 % 256, v / 65536 % 256, v / 16777216] := by
  simp only [littleL]
  rw [show v / 256 / 256 % 256 = v / 65536 % 256 by omega, show v / 256 / 256 / 256 % 256 = v / 16777216 by omega]
theorem little8_eq {v : Int} (h : 0 ≤ v) (h1 : v ≤ 18446744073709551615) : littleL v 8 = littleL (v % 4294967296) 4 ++ littleL (v / 4294967296) 4 := by
  simp only [littleL, List.cons_append, List.nil_append, List.cons.injEq, and_true]
  refine ⟨by omega, by omega, by omega, by omega, by omega, by omega, by omega, by omega⟩
end Go.Proofs.Ytjkmcdgjhfiklaa
