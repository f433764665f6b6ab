/-
  PLAIN MATHEMATICS of policies: valid ones, what they allow. No Go in sight.
-/
import Derived.Test.YtjkmcdgjhfiklaaMathQ
import Derived.Test.YtjkmcdgjhfiklaaMathN
namespace Go.Proofs.Ytjkmcdgjhfiklaa
set_option linter.unusedVariables false

/-- an entry: its two numbers and its rules -/
structure E where
  arch : Int
  nr : Int
  rules : List (List K)

def E.zero : E := ⟨0, 0, []⟩
def okR (r : List K) : Prop := ∀ c ∈ r, c.ok
def okRs (l : List (List K)) : Prop := ∀ r ∈ l, okR r
def E.ok (e : E) : Prop := (0 ≤ e.arch ∧ e.arch ≤ 4294967295) ∧ (0 ≤ e.nr ∧ e.nr ≤ 4294967295) ∧ okRs e.rules
def okP (p : List E) : Prop := ∀ e ∈ p, e.ok
theorem E.zero_ok : E.zero.ok := ⟨⟨by decide, by decide⟩, ⟨by decide, by decide⟩, fun r h => by simp [E.zero] at h⟩

theorem okR_at {r : List K} (h : okR r) (i : Nat) : (r.getD i K.zero).ok := by
  by_cases hi : i < r.length
  · rw [List.getD_eq_getElem?_getD, List.getElem?_eq_getElem hi]; exact h _ (List.getElem_mem hi)
  · rw [List.getD_eq_getElem?_getD, List.getElem?_eq_none (by omega)]; exact K.zero_ok
theorem okRs_at {l : List (List K)} (h : okRs l) (i : Nat) : okR (l.getD i []) := by
  by_cases hi : i < l.length
  · rw [List.getD_eq_getElem?_getD, List.getElem?_eq_getElem hi]; exact h _ (List.getElem_mem hi)
  · rw [List.getD_eq_getElem?_getD, List.getElem?_eq_none (by omega)]; intro c hc; simp at hc
theorem okP_at {p : List E} (h : okP p) (i : Nat) : (p.getD i E.zero).ok := by
  by_cases hi : i < p.length
  · rw [List.getD_eq_getElem?_getD, List.getElem?_eq_getElem hi]; exact h _ (List.getElem_mem hi)
  · rw [List.getD_eq_getElem?_getD, List.getElem?_eq_none (by omega)]; exact E.zero_ok

def validR (r : List K) : Bool := r.length == 6 && r.all validK
def validE (e : E) : Bool := decide (1 ≤ e.rules.length) && decide (e.rules.length ≤ 200) && e.rules.all validR
def befE (a b : E) : Bool := decide (a.arch < b.arch) || (a.arch == b.arch && decide (a.nr < b.nr))
def stepOk (p : List E) (i : Nat) : Bool := (i == 0 || befE (p.getD (i - 1) E.zero) (p.getD i E.zero)) && validE (p.getD i E.zero)
def totalR : List E → Nat
  | [] => 0
  | e :: p => e.rules.length + totalR p
def validP (p : List E) : Bool := (List.range p.length).all (stepOk p) && decide (totalR p ≤ 1000)

theorem all_getD {α : Type} (d : α) (f : α → Bool) (l : List α) : l.all f = true ↔ ∀ i, i < l.length → f (l.getD i d) = true := by
  rw [List.all_eq_true]
  constructor
  · intro h i hi
    rw [List.getD_eq_getElem?_getD, List.getElem?_eq_getElem hi]; exact h _ (List.getElem_mem hi)
  · intro h x hx
    obtain ⟨i, hi, rfl⟩ := List.getElem_of_mem hx
    have := h i hi
    rw [List.getD_eq_getElem?_getD, List.getElem?_eq_getElem hi] at this; exact this
theorem all_no {α : Type} {d : α} {f : α → Bool} {l : List α} {i : Nat} (hi : i < l.length) (h : f (l.getD i d) = false) : l.all f = false := by
  cases hc : l.all f with
  | false => rfl
  | true => rw [(all_getD d f l).1 hc i hi] at h; exact absurd h (by decide)
theorem any_getD {α : Type} (d : α) (f : α → Bool) (l : List α) : l.any f = true ↔ ∃ i, i < l.length ∧ f (l.getD i d) = true := by
  rw [List.any_eq_true]
  constructor
  · rintro ⟨x, hx, h⟩
    obtain ⟨i, hi, rfl⟩ := List.getElem_of_mem hx
    exact ⟨i, hi, by rw [List.getD_eq_getElem?_getD, List.getElem?_eq_getElem hi]; exact h⟩
  · rintro ⟨i, hi, h⟩
    rw [List.getD_eq_getElem?_getD, List.getElem?_eq_getElem hi] at h
    exact ⟨_, List.getElem_mem hi, h⟩
theorem any_no {α : Type} {d : α} {f : α → Bool} {l : List α} (h : ∀ i, i < l.length → f (l.getD i d) = false) : l.any f = false := by
  cases hc : l.any f with
  | false => rfl
  | true =>
    obtain ⟨i, hi, h1⟩ := (any_getD d f l).1 hc
    rw [h i hi] at h1; exact absurd h1 (by decide)

theorem validP_no {p : List E} {i : Nat} (hi : i < p.length) (h : stepOk p i = false) : validP p = false := by
  have : (List.range p.length).all (stepOk p) = false := by
    cases hc : (List.range p.length).all (stepOk p) with
    | false => rfl
    | true =>
      rw [List.all_eq_true] at hc
      rw [hc i (List.mem_range.2 hi)] at h; exact absurd h (by decide)
  rw [validP, this, Bool.false_and]
theorem validP_yes {p : List E} (h : ∀ i, i < p.length → stepOk p i = true) : validP p = decide (totalR p ≤ 1000) := by
  have : (List.range p.length).all (stepOk p) = true := by
    rw [List.all_eq_true]; intro i hi; exact h i (List.mem_range.1 hi)
  rw [validP, this, Bool.true_and]
theorem validP_step {p : List E} (h : validP p = true) {i : Nat} (hi : i < p.length) : stepOk p i = true := by
  rw [validP, Bool.and_eq_true, List.all_eq_true] at h
  exact h.1 i (List.mem_range.2 hi)
theorem totalR_append (p q : List E) : totalR (p ++ q) = totalR p + totalR q := by
  induction p with
  | nil => simp [totalR]
  | cons e p ih => simp only [List.cons_append, totalR, ih]; omega
theorem totalR_take {p : List E} {k : Nat} (h : k < p.length) : totalR (p.take (k + 1)) = totalR (p.take k) + (p.getD k E.zero).rules.length := by
  have e : p.take (k + 1) = p.take k ++ [p.getD k E.zero] := by
    rw [List.take_add_one, List.getElem?_eq_getElem h, List.getD_eq_getElem?_getD, List.getElem?_eq_getElem h]; rfl
  rw [e, totalR_append]; simp [totalR]

/-- entries of a valid policy come in order -/
theorem befE_trans {a b c : E} (h : befE a b = true) (h' : befE b c = true) : befE a c = true := by
  simp only [befE, Bool.or_eq_true, Bool.and_eq_true, decide_eq_true_eq, beq_iff_eq] at *
  omega
theorem befE_of_valid {p : List E} (h : validP p = true) : ∀ {i j : Nat}, i < j → j < p.length → befE (p.getD i E.zero) (p.getD j E.zero) = true := by
  intro i j hij hj
  obtain ⟨m, rfl⟩ : ∃ m, j = i + 1 + m := ⟨j - (i + 1), by omega⟩
  clear hij
  have step : ∀ k, k + 1 < p.length → befE (p.getD k E.zero) (p.getD (k + 1) E.zero) = true := fun k hk => by
    have := validP_step h hk
    rw [stepOk, Bool.and_eq_true, Bool.or_eq_true] at this
    rcases this.1 with h1 | h1
    · simp at h1
    · exact h1
  induction m with
  | zero => exact step i hj
  | succ m ih =>
    exact befE_trans (ih (by omega)) (step (i + 1 + m) hj)

def ruleHolds (r : List K) (args : List Int) : Bool := (List.range 6).all fun i => holdsK (r.getD i K.zero) (args.getD i 0).toNat
def meets (e : E) (c : C) : Bool := e.arch == c.arch && e.nr == c.nr
def allowsP (p : List E) (c : C) : Bool := validP p && (c.args.length == 6) && p.any fun e => meets e c && e.rules.any fun r => ruleHolds r c.args

theorem meets_once {p : List E} {c : C} (h : validP p = true) {i j : Nat} (hi : i < p.length) (hj : j < p.length) (m1 : meets (p.getD i E.zero) c = true) (m2 : meets (p.getD j E.zero) c = true) : i = j := by
  have key : ∀ {i j : Nat}, i < j → j < p.length → meets (p.getD i E.zero) c = true → meets (p.getD j E.zero) c = true → False := by
    intro i j hij hj m1 m2
    have hb := befE_of_valid h hij hj
    simp only [befE, meets, Bool.or_eq_true, Bool.and_eq_true, decide_eq_true_eq, beq_iff_eq] at *
    omega
  rcases Nat.lt_trichotomy i j with h1 | h1 | h1
  · exact (key h1 hj m1 m2).elim
  · exact h1
  · exact (key h1 hi m2 m1).elim
theorem allows_first {p : List E} {c : C} (h : validP p = true) {i : Nat} (hi : i < p.length) (hm : meets (p.getD i E.zero) c = true) :
    (p.any fun e => meets e c && e.rules.any fun r => ruleHolds r c.args) = (p.getD i E.zero).rules.any fun r => ruleHolds r c.args := by
  rw [Bool.eq_iff_iff, any_getD E.zero]
  constructor
  · rintro ⟨j, hj, h1⟩
    rw [Bool.and_eq_true] at h1
    have := meets_once h hi hj hm h1.1
    subst this
    exact h1.2
  · intro h1
    exact ⟨i, hi, by rw [hm, Bool.true_and]; exact h1⟩
theorem ruleHolds_no {r : List K} {args : List Int} {i : Nat} (hi : i < 6) (h : holdsK (r.getD i K.zero) (args.getD i 0).toNat = false) : ruleHolds r args = false := by
  cases hc : ruleHolds r args with
  | false => rfl
  | true =>
    rw [ruleHolds, List.all_eq_true] at hc
    rw [hc i (List.mem_range.2 hi)] at h; exact absurd h (by decide)
theorem ruleHolds_yes {r : List K} {args : List Int} (h : ∀ i, i < 6 → holdsK (r.getD i K.zero) (args.getD i 0).toNat = true) : ruleHolds r args = true := by
  rw [ruleHolds, List.all_eq_true]; intro i hi; exact h i (List.mem_range.1 hi)
end Go.Proofs.Ytjkmcdgjhfiklaa
