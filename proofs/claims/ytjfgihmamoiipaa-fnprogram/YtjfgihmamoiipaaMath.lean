/-
  PLAIN MATHEMATICS of the machine's table: the known codes, the tests, the faults of one instruction, the first fault of a program. No Go in sight.
-/
import Derived.Below
namespace Go.Proofs.Ytjfgihmamoiipaa

/-- one instruction: its four numbers -/
structure I where
  c : Int
  jt : Int
  jf : Int
  k : Int

def I.ok (x : I) : Prop := 0 ≤ x.c ∧ x.c ≤ 65535 ∧ 0 ≤ x.jt ∧ x.jt ≤ 255 ∧ 0 ≤ x.jf ∧ x.jf ≤ 255 ∧ 0 ≤ x.k ∧ x.k ≤ 4294967295
def I.zero : I := ⟨0, 0, 0, 0⟩
theorem I.zero_ok : I.zero.ok := by unfold I.ok I.zero; decide

def codesL : List Int := [0, 1, 32, 96, 97, 2, 3, 4, 12, 20, 28, 36, 44, 52, 60, 68, 76, 84, 92, 164, 172, 100, 108, 116, 124, 132, 7, 135, 5, 21, 29, 37, 45, 53, 61, 69, 77, 6, 22]
def knownB (c : Int) : Bool := codesL.contains c
def memB (c : Int) : Bool := c == 96 || c == 97 || c == 2 || c == 3
def ariB (c : Int) : Bool := c == 4 || c == 20 || c == 36 || c == 52 || c == 68 || c == 84 || c == 164 || c == 100 || c == 116 || c == 12 || c == 28 || c == 44 || c == 60 || c == 76 || c == 92 || c == 172 || c == 108 || c == 124 || c == 132
def tstB (c : Int) : Bool := c == 21 || c == 37 || c == 53 || c == 69 || c == 29 || c == 45 || c == 61 || c == 77
def isKnownB (c : Int) : Bool := c == 0 || c == 1 || c == 32 || c == 7 || c == 135 || c == 5 || c == 6 || c == 22 || memB c || ariB c || tstB c

theorem isKnownB_eq (c : Int) : isKnownB c = knownB c := by
  simp only [isKnownB, memB, ariB, tstB, knownB, codesL, List.contains_cons, List.contains_nil, Bool.or_false]
  ac_rfl

theorem tst_known (c : Int) (h : tstB c = true) : knownB c = true := by
  rw [← isKnownB_eq]; simp [isKnownB, h]

theorem tst_of_known : ∀ c ∈ codesL, tstB c = (c % 8 == 5 && c != 5) := by decide

theorem tstB_eq (c : Int) : (knownB c && c % 8 == 5 && c != 5) = tstB c := by
  cases h : knownB c with
  | false =>
    cases h2 : tstB c with
    | false => simp
    | true => rw [tst_known c h2] at h; cases h
  | true =>
    have hm : c ∈ codesL := by simpa [knownB] using h
    rw [tst_of_known c hm]; simp

/-- the fault of the instruction (c, jt, jf, k) at index i of n, as the document's model has it -/
def faultS (n i c jt jf k : Int) : Int :=
  if knownB c = false then 2
  else if c = 32 ∧ (k % 4 ≠ 0 ∨ 60 < k) then 3
  else if memB c = true ∧ 16 ≤ k then 4
  else if c = 5 ∧ n ≤ i + 1 + k then 5
  else if tstB c = true ∧ (n ≤ i + 1 + jt ∨ n ≤ i + 1 + jf) then 5
  else if c = 52 ∧ k = 0 then 6
  else if (c = 100 ∨ c = 116) ∧ 32 ≤ k then 6
  else if i = n - 1 ∧ c ≠ 6 ∧ c ≠ 22 then 7
  else 0

def jumpB (c jt jf k after : Int) : Bool := if tstB c then (decide (after ≤ jt) || decide (after ≤ jf)) else (c == 5 && decide (after ≤ k))
def badB (c k : Int) : Bool := if c = 52 then k == 0 else if c = 100 ∨ c = 116 then decide (32 ≤ k) else false

/-- the fault as the program reckons it, from the number of instructions that follow -/
def faultI (c jt jf k after : Int) : Int :=
  if isKnownB c = false then 2
  else if c = 32 ∧ (k % 4 ≠ 0 ∨ 60 < k) then 3
  else if memB c = true ∧ 16 ≤ k then 4
  else if jumpB c jt jf k after = true then 5
  else if badB c k = true then 6
  else if after = 0 ∧ c ≠ 6 ∧ c ≠ 22 then 7
  else 0

theorem faultI_eq (n i c jt jf k : Int) : faultI c jt jf k (n - 1 - i) = faultS n i c jt jf k := by
  unfold faultI faultS
  rw [isKnownB_eq]
  have h5 : tstB 5 = false := by decide
  have hj : jumpB c jt jf k (n - 1 - i) = true ↔ ((c = 5 ∧ n ≤ i + 1 + k) ∨ (tstB c = true ∧ (n ≤ i + 1 + jt ∨ n ≤ i + 1 + jf))) := by
    unfold jumpB
    by_cases ht : tstB c = true
    · have hc : c ≠ 5 := by intro e; rw [e, h5] at ht; cases ht
      simp [ht, hc]; omega
    · simp [ht]; omega
  have hb : badB c k = true ↔ ((c = 52 ∧ k = 0) ∨ ((c = 100 ∨ c = 116) ∧ 32 ≤ k)) := by
    unfold badB
    by_cases h1 : c = 52
    · subst h1; simp
    · by_cases h2 : c = 100 ∨ c = 116
      · simp [h1, h2]
      · simp [h1, h2]
  have he : (n - 1 - i = 0 ∧ c ≠ 6 ∧ c ≠ 22) ↔ (i = n - 1 ∧ c ≠ 6 ∧ c ≠ 22) := by omega
  by_cases g1 : knownB c = false
  · simp only [if_pos g1]
  simp only [if_neg g1]
  by_cases g2 : c = 32 ∧ (k % 4 ≠ 0 ∨ 60 < k)
  · simp only [if_pos g2]
  simp only [if_neg g2]
  by_cases g3 : memB c = true ∧ 16 ≤ k
  · simp only [if_pos g3]
  simp only [if_neg g3]
  by_cases g4 : c = 5 ∧ n ≤ i + 1 + k
  · rw [if_pos (hj.2 (.inl g4)), if_pos g4]
  · by_cases g5 : tstB c = true ∧ (n ≤ i + 1 + jt ∨ n ≤ i + 1 + jf)
    · rw [if_pos (hj.2 (.inr g5)), if_neg g4, if_pos g5]
    · have hn : ¬ jumpB c jt jf k (n - 1 - i) = true := fun e => (hj.1 e).elim g4 g5
      rw [if_neg hn, if_neg g4, if_neg g5]
      by_cases g6 : c = 52 ∧ k = 0
      · rw [if_pos (hb.2 (.inl g6)), if_pos g6]
      · by_cases g7 : (c = 100 ∨ c = 116) ∧ 32 ≤ k
        · rw [if_pos (hb.2 (.inr g7)), if_neg g6, if_pos g7]
        · have hn2 : ¬ badB c k = true := fun e => (hb.1 e).elim g6 g7
          rw [if_neg hn2, if_neg g6, if_neg g7]
          by_cases g8 : i = n - 1 ∧ c ≠ 6 ∧ c ≠ 22
          · rw [if_pos (he.2 g8), if_pos g8]
          · rw [if_neg (fun e => g8 (he.1 e)), if_neg g8]

theorem faultS_bd (n i c jt jf k : Int) : 0 ≤ faultS n i c jt jf k ∧ faultS n i c jt jf k ≤ 7 := by
  unfold faultS
  repeat' split
  all_goals omega

/-- the first index from i on, among the next m, whose fault is not 0 -/
def ffrom (F : Nat → Int) : Nat → Nat → Int × Int
  | 0, _ => (0, 0)
  | m + 1, i => if F i = 0 then ffrom F m (i + 1) else (F i, (i : Int))

/-- the fault at index i of the program p -/
def faultAt (p : List I) (i : Nat) : Int := faultS p.length i (p.getD i I.zero).c (p.getD i I.zero).jt (p.getD i I.zero).jf (p.getD i I.zero).k

/-- what Validate answers -/
def validL (p : List I) : Int × Int := if p.length < 1 ∨ 4096 < p.length then (1, 0) else ffrom (faultAt p) p.length 0

theorem ffrom_step0 {F : Nat → Int} {n k : Nat} (h : k < n) (h0 : F k = 0) : ffrom F (n - (k + 1)) (k + 1) = ffrom F (n - k) k := by
  have e : n - k = (n - (k + 1)) + 1 := by omega
  rw [e, ffrom, if_pos h0]
theorem ffrom_hit {F : Nat → Int} {n k : Nat} (h : k < n) (h0 : F k ≠ 0) : ffrom F (n - k) k = (F k, (k : Int)) := by
  have e : n - k = (n - (k + 1)) + 1 := by omega
  rw [e, ffrom, if_neg h0]
theorem ffrom_end {F : Nat → Int} {n : Nat} : ffrom F (n - n) n = (0, 0) := by rw [Nat.sub_self]; rfl
theorem validL_big {p : List I} (h : p.length < 1 ∨ 4096 < p.length) : validL p = (1, 0) := by unfold validL; rw [if_pos h]
theorem validL_in {p : List I} (h1 : 1 ≤ p.length) (h2 : p.length ≤ 4096) : validL p = ffrom (faultAt p) (p.length - 0) 0 := by
  unfold validL; rw [if_neg (by omega), Nat.sub_zero]
end Go.Proofs.Ytjfgihmamoiipaa
