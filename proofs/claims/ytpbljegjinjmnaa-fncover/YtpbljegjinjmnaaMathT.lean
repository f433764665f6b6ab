/-
  PLAIN MATHEMATICS of making a policy small: entry by entry. No Go in sight.
-/
import Derived.Test.YtpbljegjinjmnaaMathK
namespace Go.Proofs.Ytpbljegjinjmnaa
set_option linter.unusedVariables false

theorem vr_of {r : Ru} (ho : okR r) (hv : validR r = true) : VR r := by
  rw [validR, Bool.and_eq_true, beq_iff_eq, all_getD K.zero] at hv
  refine ⟨hv.1, fun i => ⟨okR_at ho i, ?_⟩⟩
  by_cases hi : i < r.length
  · exact hv.2 i hi
  · rw [List.getD_eq_getElem?_getD, List.getElem?_eq_none (by omega)]; rfl
theorem VR.valid {r : Ru} (h : VR r) : validR r = true := by
  rw [validR, Bool.and_eq_true, beq_iff_eq, all_getD K.zero]
  exact ⟨h.1, fun i _ => (h.2 i).2⟩
theorem VR.okR {r : Ru} (h : VR r) : okR r := by
  intro c hc
  obtain ⟨i, hi, rfl⟩ := List.getElem_of_mem hc
  have := (h.2 i).1
  rw [List.getD_eq_getElem?_getD, List.getElem?_eq_getElem hi] at this; exact this

/-- the arguments, as numbers -/
def argN (args : List Int) (i : Nat) : Nat := (args.getD i 0).toNat
theorem ruleHolds_iff (r : Ru) (args : List Int) : ruleHolds r args = true ↔ holdsR r (argN args) := by
  rw [ruleHolds, List.all_eq_true]
  constructor
  · intro h i hi; exact h i (List.mem_range.2 hi)
  · intro h i hi; exact h i (List.mem_range.1 hi)
theorem anyRule_iff (l : List Ru) (args : List Int) : (l.any fun r => ruleHolds r args) = true ↔ allowsR l (argN args) := by
  rw [List.any_eq_true]
  constructor
  · rintro ⟨r, hr, h⟩; exact ⟨r, hr, (ruleHolds_iff r args).1 h⟩
  · rintro ⟨r, hr, h⟩; exact ⟨r, hr, (ruleHolds_iff r args).2 h⟩

/-- entry by entry the same numbers and the rules made few -/
def IsMin (p out : List E) : Prop := out.length = p.length ∧ ∀ i, i < p.length → (out.getD i E.zero).arch = (p.getD i E.zero).arch ∧ (out.getD i E.zero).nr = (p.getD i E.zero).nr ∧ IsSmall (p.getD i E.zero).rules (out.getD i E.zero).rules

theorem ext_getD {α : Type} (d : α) {l m : List α} (h : l.length = m.length) (h' : ∀ i, i < l.length → l.getD i d = m.getD i d) : l = m := by
  apply List.ext_getElem h
  intro i h1 h2
  have := h' i h1
  rw [List.getD_eq_getElem?_getD, List.getD_eq_getElem?_getD, List.getElem?_eq_getElem h1, List.getElem?_eq_getElem h2] at this
  exact this
theorem IsMin.uniq {p out out' : List E} (h : IsMin p out) (h' : IsMin p out') : out = out' := by
  apply ext_getD E.zero (by rw [h.1, h'.1])
  intro i hi
  rw [h.1] at hi
  obtain ⟨a, b, c⟩ := h.2 i hi
  obtain ⟨a', b', c'⟩ := h'.2 i hi
  have e := c.uniq c'
  generalize out.getD i E.zero = x at *
  generalize out'.getD i E.zero = y at *
  obtain ⟨x1, x2, x3⟩ := x
  obtain ⟨y1, y2, y3⟩ := y
  simp only at a b a' b' e
  rw [a, a', b, b', e]

theorem validP_parts {p : List E} (h : validP p = true) {i : Nat} (hi : i < p.length) : validE (p.getD i E.zero) = true ∧ (0 < i → befE (p.getD (i - 1) E.zero) (p.getD i E.zero) = true) := by
  have := validP_step h hi
  rw [stepOk, Bool.and_eq_true, Bool.or_eq_true] at this
  refine ⟨this.2, fun h0 => ?_⟩
  rcases this.1 with g | g
  · simp at g; omega
  · exact g
theorem validE_parts {e : E} (h : validE e = true) : 1 ≤ e.rules.length ∧ e.rules.length ≤ 200 ∧ ∀ r ∈ e.rules, validR r = true := by
  rw [validE, Bool.and_eq_true, Bool.and_eq_true, decide_eq_true_eq, decide_eq_true_eq, List.all_eq_true] at h
  exact ⟨h.1.1, h.1.2, h.2⟩
theorem validE_mk {e : E} (h1 : 1 ≤ e.rules.length) (h2 : e.rules.length ≤ 200) (h3 : ∀ r ∈ e.rules, validR r = true) : validE e = true := by
  rw [validE, Bool.and_eq_true, Bool.and_eq_true, decide_eq_true_eq, decide_eq_true_eq, List.all_eq_true]
  exact ⟨⟨h1, h2⟩, h3⟩
theorem valid_rules {p : List E} (hv : validP p = true) (ho : okP p) {i : Nat} (hi : i < p.length) : ∀ r ∈ (p.getD i E.zero).rules, VR r := fun r hr =>
  vr_of ((okP_at ho i).2.2 r hr) ((validE_parts (validP_parts hv hi).1).2.2 r hr)

theorem totalR_le {p q : List E} : ∀ (h : p.length = q.length), (∀ i, i < p.length → (p.getD i E.zero).rules.length ≤ (q.getD i E.zero).rules.length) → totalR p ≤ totalR q := by
  induction p generalizing q with
  | nil => intro h _; simp [totalR]
  | cons a p ih =>
    intro h h1
    cases q with
    | nil => simp at h
    | cons b q =>
      have h0 := h1 0 (by simp)
      have := ih (q := q) (by simpa using h) (fun i hi => by have := h1 (i + 1) (by simpa using hi); simpa using this)
      simp only [totalR]
      simp at h0
      omega

structure MinFacts (p out : List E) : Prop where
  valid : validP out = true
  ok : okP out
  len : out.length = p.length
  each : ∀ i, i < p.length → SmallFacts (p.getD i E.zero).rules (out.getD i E.zero).rules
  allows : ∀ c : C, A64 (argN c.args) → allowsP out c = allowsP p c

theorem IsMin.facts {p out : List E} (hv : validP p = true) (ho : okP p) (h : IsMin p out) : MinFacts p out := by
  have each : ∀ i, i < p.length → SmallFacts (p.getD i E.zero).rules (out.getD i E.zero).rules := fun i hi => (h.2 i hi).2.2.facts (valid_rules hv ho hi)
  have vo : validP out = true := by
    rw [validP_yes]
    · rw [decide_eq_true_eq]
      have h1 : totalR p ≤ 1000 := by
        rw [validP, Bool.and_eq_true, decide_eq_true_eq] at hv; exact hv.2
      exact Nat.le_trans (totalR_le h.1 (fun i hi => (each i (by rw [← h.1]; exact hi)).len)) h1
    · intro i hi
      rw [h.1] at hi
      obtain ⟨e1, e2⟩ := validP_parts hv hi
      obtain ⟨v1, v2, v3⟩ := validE_parts e1
      have f := each i hi
      rw [stepOk, Bool.and_eq_true, Bool.or_eq_true]
      constructor
      · by_cases h0 : i = 0
        · left; simp [h0]
        · right
          have := e2 (by omega)
          obtain ⟨a, b, _⟩ := h.2 i hi
          obtain ⟨a', b', _⟩ := h.2 (i - 1) (by omega)
          unfold befE at this ⊢
          rw [a, b, a', b']; exact this
      · refine validE_mk ?_ ?_ ?_
        · have := f.ne (fun e => by rw [e] at v1; simp at v1)
          cases h : (out.getD i E.zero).rules with
          | nil => exact absurd h this
          | cons a t => simp
        · have := f.len; omega
        · intro r hr; exact (f.nr r hr).vr.valid
  refine ⟨vo, ?_, h.1, each, ?_⟩
  · intro e he
    obtain ⟨i, hi, rfl⟩ := List.getElem_of_mem he
    have hi' : i < p.length := by rw [← h.1]; exact hi
    have e1 : out.getD i E.zero = out[i] := by rw [List.getD_eq_getElem?_getD, List.getElem?_eq_getElem hi]; rfl
    rw [← e1]
    obtain ⟨a, b, _⟩ := h.2 i hi'
    have f := each i hi'
    have o := okP_at ho i
    refine ⟨by rw [a]; exact o.1, by rw [b]; exact o.2.1, fun r hr => (f.nr r hr).vr.okR⟩
  · intro c hA
    rw [allowsP, allowsP, vo, hv]
    congr 1
    rw [Bool.eq_iff_iff, any_getD E.zero, any_getD E.zero]
    have key : ∀ i, i < p.length → ((meets (out.getD i E.zero) c && (out.getD i E.zero).rules.any fun r => ruleHolds r c.args) = true ↔ (meets (p.getD i E.zero) c && (p.getD i E.zero).rules.any fun r => ruleHolds r c.args) = true) := by
      intro i hi
      obtain ⟨a, b, _⟩ := h.2 i hi
      have f := (each i hi).allows (argN c.args) hA
      rw [Bool.and_eq_true, Bool.and_eq_true, anyRule_iff, anyRule_iff, f]
      unfold meets
      rw [a, b]
    constructor
    · rintro ⟨i, hi, h1⟩
      rw [h.1] at hi
      exact ⟨i, hi, (key i hi).1 h1⟩
    · rintro ⟨i, hi, h1⟩
      exact ⟨i, by rw [h.1]; exact hi, (key i hi).2 h1⟩
theorem MinFacts.again {p out : List E} (h : MinFacts p out) : IsMin out out :=
  ⟨rfl, fun i hi => ⟨rfl, rfl, (h.each i (by rw [← h.len]; exact hi)).again⟩⟩
end Go.Proofs.Ytpbljegjinjmnaa
