/-
  PLAIN MATHEMATICS of laying out items. No Go in sight.
-/
import Derived.Test.YtioabdfddjmabaaAsmA
namespace Go.Proofs.Ytioabdfddjmabaa
set_option linter.unusedVariables false

/-- what an item may be -/
def isTst (c : Int) : Bool := c == 21 || c == 37 || c == 53 || c == 69
def okIt (x : It) : Bool :=
  if x.kind = 0 then knownB x.ins.c && (x.ins.c != 5) && !tstB x.ins.c
  else if x.kind = 1 ∨ x.kind = 2 then isTst x.ins.c
  else x.kind == 3 || x.kind == 4
/-- a far or near branch over d instructions -/
def tstI (x : I) (b : Bool) (n : Int) : I := if b then ⟨x.c, n, 0, x.k⟩ else ⟨x.c, 0, n, x.k⟩
def brI (x : It) (d : Int) : List I :=
  if x.kind = 3 then [⟨5, 0, 0, d⟩]
  else if d ≤ 255 then [tstI x.ins (x.kind == 1) d]
  else [⟨5, 0, 0, d⟩, tstI x.ins (!(x.kind == 1)) 1]
abbrev Mk := Int → Option Nat
def stI (x : It) (s : List I × Mk) : Option (List I × Mk) :=
  if x.kind = 0 then some (s.1 ++ [x.ins], s.2)
  else match s.2 x.target with
    | none => if x.kind = 4 then some (s.1, fun t => if t = x.target then some s.1.length else s.2 t) else none
    | some a => if x.kind = 4 then none else some (s.1 ++ brI x ((s.1.length : Int) - a), s.2)
/-- the items from the last one on -/
def layI : List It → Option (List I × Mk)
  | [] => some ([], fun _ => none)
  | x :: l => match layI l with
    | none => none
    | some s => stI x s
theorem layI_drop {l : List It} {i : Nat} (h : i < l.length) : layI (l.drop i) = match layI (l.drop (i + 1)) with | none => none | some s => stI (l.getD i It.zero) s := by
  have e : l.drop i = l.getD i It.zero :: l.drop (i + 1) := by
    rw [List.drop_eq_getElem_cons h, List.getD_eq_getElem?_getD, List.getElem?_eq_getElem h]; rfl
  rw [e]; rfl
theorem brI_len (x : It) (d : Int) : 1 ≤ (brI x d).length ∧ (brI x d).length ≤ 2 := by
  unfold brI
  split
  · simp
  · split <;> simp
/-- what is laid grows; marks lie within it -/
theorem stI_facts {x : It} {s t : List I × Mk} (h : stI x s = some t) (hm : ∀ k a, s.2 k = some a → a ≤ s.1.length) : (∃ e, t.1 = s.1 ++ e ∧ e.length ≤ 2) ∧ ∀ k a, t.2 k = some a → a ≤ t.1.length := by
  unfold stI at h
  split at h
  · cases h
    exact ⟨⟨[x.ins], rfl, by simp⟩, fun k a hk => by have := hm k a hk; simp; omega⟩
  · split at h
    · split at h
      · cases h
        refine ⟨⟨[], by simp, by simp⟩, fun k a hk => ?_⟩
        simp only at hk
        split at hk
        · cases hk; exact Nat.le_refl _
        · exact hm k a hk
      · cases h
    · split at h
      · cases h
      · cases h
        exact ⟨⟨_, rfl, (brI_len _ _).2⟩, fun k a hk => by have := hm k a hk; simp; omega⟩
theorem layI_facts {l : List It} {s : List I × Mk} (h : layI l = some s) : (∀ k a, s.2 k = some a → a ≤ s.1.length) ∧ s.1.length ≤ l.length * 2 := by
  induction l generalizing s with
  | nil => cases h; exact ⟨(fun k a hk => by cases hk), by simp⟩
  | cons x l ih =>
    simp only [layI] at h
    split at h
    · cases h
    · rename_i s0 h0
      obtain ⟨h1, h2⟩ := ih h0
      obtain ⟨⟨e, h3, h4⟩, h5⟩ := stI_facts h h1
      exact ⟨h5, by rw [h3]; simp; omega⟩
/-- each part of the end is laid, and is no longer -/
theorem layI_part {l : List It} {s : List I × Mk} (h : layI l = some s) (i : Nat) : ∃ t, layI (l.drop i) = some t ∧ t.1.length ≤ s.1.length := by
  induction l generalizing s i with
  | nil => exact ⟨s, by simpa using h, Nat.le_refl _⟩
  | cons x l ih =>
    cases i with
    | zero => exact ⟨s, h, Nat.le_refl _⟩
    | succ i =>
      simp only [layI] at h
      split at h
      · cases h
      · rename_i s0 h0
        obtain ⟨t, h1, h2⟩ := ih h0 i
        obtain ⟨⟨e, h3, _⟩, _⟩ := stI_facts h (layI_facts h0).1
        exact ⟨t, h1, by rw [h3]; simp; omega⟩
theorem layI_part_none {l : List It} {i : Nat} (h : layI (l.drop i) = none) : layI l = none := by
  cases e : layI l with
  | none => rfl
  | some s =>
    obtain ⟨t, h1, _⟩ := layI_part e i
    rw [h] at h1; cases h1
/-- what Assemble answers: its code, its instructions -/
def asmOK (l : List It) : Bool := decide (l.length ≤ 20000) && l.all okIt
def asmC (l : List It) : Int := if asmOK l = true then (match layI l with | none => 1 | some s => if s.1.length ≤ 4096 then 0 else 10) else 1
def asmL (l : List It) : List I := if asmOK l = true then (match layI l with | none => [] | some s => if s.1.length ≤ 4096 then s.1.reverse else []) else []
/-- the answer of the layout alone -/
def layC (l : List It) : Int := match layI l with | none => 1 | some s => if s.1.length ≤ 4096 then 0 else 10
def layL (l : List It) : List I := match layI l with | none => [] | some s => if s.1.length ≤ 4096 then s.1.reverse else []
theorem asm_yes {l : List It} (h : asmOK l = true) : asmC l = layC l ∧ asmL l = layL l := by
  unfold asmC asmL layC layL
  rw [if_pos h, if_pos h]; exact ⟨rfl, rfl⟩
theorem asm_no {l : List It} (h : asmOK l = false) : asmC l = 1 ∧ asmL l = [] := by
  unfold asmC asmL
  rw [if_neg (by rw [h]; decide), if_neg (by rw [h]; decide)]; exact ⟨rfl, rfl⟩
theorem lay_none {l : List It} (h : layI l = none) : layC l = 1 ∧ layL l = [] := by unfold layC layL; rw [h]; exact ⟨rfl, rfl⟩
theorem lay_ok {l : List It} {s : List I × Mk} (h : layI l = some s) (hn : s.1.length ≤ 4096) : layC l = 0 ∧ layL l = s.1.reverse := by unfold layC layL; rw [h]; simp only; rw [if_pos hn, if_pos hn]; exact ⟨rfl, rfl⟩
theorem lay_big {l : List It} {s : List I × Mk} (h : layI l = some s) (hn : 4096 < s.1.length) : layC l = 10 ∧ layL l = [] := by unfold layC layL; rw [h]; simp only; rw [if_neg (by omega), if_neg (by omega)]; exact ⟨rfl, rfl⟩
theorem layL_len (l : List It) : (layL l).length ≤ 4096 := by
  unfold layL
  split
  · simp
  · split
    · simp; assumption
    · simp
theorem asmL_len (l : List It) : (asmL l).length ≤ 4096 := by
  cases h : asmOK l with
  | true => rw [(asm_yes h).2]; exact layL_len l
  | false => rw [(asm_no h).2]; simp
end Go.Proofs.Ytioabdfddjmabaa
