/-
  PLAIN MATHEMATICS of making rules few: the steps on lists of rules, and what they keep. No Go in sight.
-/
import Derived.Test.YtpbljegjinjmnaaMathJ
namespace Go.Proofs.Ytpbljegjinjmnaa
set_option linter.unusedVariables false

abbrev Ru := List K
/-- a rule of six normal conditions -/
def NR (r : Ru) : Prop := r.length = 6 ∧ ∀ i, Normal (r.getD i K.zero)
theorem normal_zero : Normal K.zero := .inl rfl
theorem getD_set {α : Type} (l : List α) (i j : Nat) (c d : α) : (l.set i c).getD j d = if i = j ∧ i < l.length then c else l.getD j d := by
  simp only [List.getD_eq_getElem?_getD, List.getElem?_set]
  by_cases h : i = j
  · subst h
    by_cases h2 : i < l.length
    · simp [h2]
    · simp [h2]
  · simp [h]
theorem NR.set {r : Ru} (h : NR r) (i : Nat) {c : K} (hc : Normal c) : NR (r.set i c) := by
  refine ⟨by rw [List.length_set]; exact h.1, fun j => ?_⟩
  rw [getD_set]
  split
  · exact hc
  · exact h.2 j

def withinR (a b : Ru) : Bool := (List.range 6).all fun i => withinI (a.getD i K.zero) (b.getD i K.zero)
theorem withinR_iff (a b : Ru) : withinR a b = true ↔ ∀ i, i < 6 → withinI (a.getD i K.zero) (b.getD i K.zero) = true := by
  simp [withinR, List.all_eq_true]
theorem withinR_no {a b : Ru} {i : Nat} (hi : i < 6) (h : withinI (a.getD i K.zero) (b.getD i K.zero) = false) : withinR a b = false := by
  cases e : withinR a b with
  | false => rfl
  | true => rw [(withinR_iff a b).1 e i hi] at h; exact absurd h (by decide)
theorem withinR_self {a : Ru} (h : NR a) : withinR a a = true := (withinR_iff a a).2 fun i _ => (withinI_iff (h.2 i) (h.2 i)).2 fun v _ h => h

/-- for the arguments A -/
def holdsR (r : Ru) (A : Nat → Nat) : Prop := ∀ i, i < 6 → holdsK (r.getD i K.zero) (A i) = true
def A64 (A : Nat → Nat) : Prop := ∀ i, A i < 18446744073709551616
theorem withinR_holds {a b : Ru} (ha : NR a) (hb : NR b) (h : withinR a b = true) {A : Nat → Nat} (hA : A64 A) (h1 : holdsR a A) : holdsR b A := fun i hi =>
  (withinI_iff (ha.2 i) (hb.2 i)).1 ((withinR_iff a b).1 h i hi) (A i) (hA i) (h1 i hi)

/-- they differ at just i, and there they join to c -/
def JoinAt (a b : Ru) (i : Nat) (c : K) : Prop := i < 6 ∧ a.getD i K.zero ≠ b.getD i K.zero ∧ (∀ j, j < 6 → j ≠ i → a.getD j K.zero = b.getD j K.zero) ∧ joinK (a.getD i K.zero) (b.getD i K.zero) = some c
def JoinR (a b r : Ru) : Prop := ∃ i c, JoinAt a b i c ∧ r = a.set i c
def NoJoin (a b : Ru) : Prop := ∀ r, ¬ JoinR a b r
theorem JoinR.uniq {a b r s : Ru} (h : JoinR a b r) (h' : JoinR a b s) : r = s := by
  obtain ⟨i, c, ⟨h1, h2, h3, h4⟩, rfl⟩ := h
  obtain ⟨j, d, ⟨k1, k2, k3, k4⟩, rfl⟩ := h'
  have : i = j := by
    by_cases e : i = j
    · exact e
    · exact absurd (k3 i h1 e) h2
  subst this
  rw [h4] at k4
  cases k4
  rfl
theorem NoJoin.symm {a b : Ru} (h : NoJoin a b) : NoJoin b a := by
  rintro r ⟨i, c, ⟨h1, h2, h3, h4⟩, rfl⟩
  cases e : joinK (a.getD i K.zero) (b.getD i K.zero) with
  | some d => exact h _ ⟨i, d, ⟨h1, fun e => h2 e.symm, fun j hj hne => (h3 j hj hne).symm, e⟩, rfl⟩
  | none => rw [joinK_none e] at h4; cases h4
theorem JoinR.normal {a b r : Ru} (ha : NR a) (hb : NR b) (h : JoinR a b r) : NR r := by
  obtain ⟨i, c, ⟨h1, h2, h3, h4⟩, rfl⟩ := h
  exact ha.set i (joinK_some (ha.2 i) (hb.2 i) h4).1
theorem JoinR.holds {a b r : Ru} (ha : NR a) (hb : NR b) (h : JoinR a b r) {A : Nat → Nat} (hA : A64 A) : holdsR r A ↔ (holdsR a A ∨ holdsR b A) := by
  obtain ⟨i, c, ⟨h1, h2, h3, h4⟩, rfl⟩ := h
  have hc := (joinK_some (ha.2 i) (hb.2 i) h4).2 (A i) (hA i)
  have hl := ha.1
  constructor
  · intro h
    have hi := h i h1
    rw [getD_set, if_pos ⟨rfl, by omega⟩] at hi
    rcases hc.1 hi with g | g
    · left
      intro j hj
      by_cases e : i = j
      · subst e; exact g
      · have := h j hj
        rw [getD_set, if_neg (by rintro ⟨q, _⟩; exact e q)] at this
        exact this
    · right
      intro j hj
      by_cases e : i = j
      · subst e; exact g
      · have := h j hj
        rw [getD_set, if_neg (by rintro ⟨q, _⟩; exact e q)] at this
        rw [← h3 j hj (fun q => e q.symm)]; exact this
  · intro h j hj
    rw [getD_set]
    by_cases e : i = j
    · subst e
      rw [if_pos ⟨rfl, by omega⟩]
      apply hc.2
      rcases h with h | h
      · exact .inl (h i hj)
      · exact .inr (h i hj)
    · rw [if_neg (by rintro ⟨q, _⟩; exact e q)]
      rcases h with h | h
      · exact h j hj
      · rw [h3 j hj (fun q => e q.symm)]; exact h j hj

/-! steps -/
def at' (l : List Ru) (i : Nat) : Ru := l.getD i []
/-- none of the first i is within another -/
def NoWupto (l : List Ru) (i : Nat) : Prop := ∀ p, p < i → ∀ q, q < l.length → p ≠ q → withinR (at' l p) (at' l q) = false
def NoW (l : List Ru) : Prop := NoWupto l l.length
def FirstW (l : List Ru) (i : Nat) : Prop := i < l.length ∧ NoWupto l i ∧ ∃ j, j < l.length ∧ i ≠ j ∧ withinR (at' l i) (at' l j) = true
/-- no pair ahead of (i, j) joins -/
def NoJupto (l : List Ru) (i : Nat) : Prop := ∀ p, p < i → ∀ q, p < q → q < l.length → NoJoin (at' l p) (at' l q)
def NoJ (l : List Ru) : Prop := NoJupto l l.length
def FirstJ (l : List Ru) (i j : Nat) (r : Ru) : Prop := i < j ∧ j < l.length ∧ NoJupto l i ∧ (∀ q, i < q → q < j → NoJoin (at' l i) (at' l q)) ∧ JoinR (at' l i) (at' l j) r
inductive Step (l : List Ru) : List Ru → Prop
  | drop {i : Nat} (h : FirstW l i) : Step l (l.eraseIdx i)
  | join {i j : Nat} {r : Ru} (h0 : NoW l) (h : FirstJ l i j r) : Step l ((l.set i r).eraseIdx j)
def Stuck (l : List Ru) : Prop := NoW l ∧ NoJ l
inductive Steps : List Ru → List Ru → Prop
  | done {l : List Ru} (h : Stuck l) : Steps l l
  | more {l m n : List Ru} (h : Step l m) (h' : Steps m n) : Steps l n

theorem FirstW.uniq {l : List Ru} {i i' : Nat} (h : FirstW l i) (h' : FirstW l i') : i = i' := by
  obtain ⟨h1, h2, j, h3, h4, h5⟩ := h
  obtain ⟨k1, k2, j', k3, k4, k5⟩ := h'
  rcases Nat.lt_trichotomy i i' with g | g | g
  · rw [k2 i g j h3 h4] at h5; exact absurd h5 (by decide)
  · exact g
  · rw [h2 i' g j' k3 k4] at k5; exact absurd k5 (by decide)
theorem FirstW.notNoW {l : List Ru} {i : Nat} (h : FirstW l i) (h' : NoW l) : False := by
  obtain ⟨h1, h2, j, h3, h4, h5⟩ := h
  rw [h' i h1 j h3 h4] at h5; exact absurd h5 (by decide)
theorem FirstJ.uniq {l : List Ru} {i j i' j' : Nat} {r r' : Ru} (h : FirstJ l i j r) (h' : FirstJ l i' j' r') : i = i' ∧ j = j' ∧ r = r' := by
  obtain ⟨h1, h2, h3, h4, h5⟩ := h
  obtain ⟨k1, k2, k3, k4, k5⟩ := h'
  have e : i = i' := by
    rcases Nat.lt_trichotomy i i' with g | g | g
    · exact absurd h5 (k3 i g j h1 h2 r)
    · exact g
    · exact absurd k5 (h3 i' g j' k1 k2 r')
  subst e
  have e : j = j' := by
    rcases Nat.lt_trichotomy j j' with g | g | g
    · exact absurd h5 (k4 j h1 g r)
    · exact g
    · exact absurd k5 (h4 j' k1 g r')
  subst e
  exact ⟨rfl, rfl, h5.uniq k5⟩
theorem FirstJ.notNoJ {l : List Ru} {i j : Nat} {r : Ru} (h : FirstJ l i j r) (h' : NoJ l) : False := by
  obtain ⟨h1, h2, h3, h4, h5⟩ := h
  exact h' i (by omega) j h1 h2 r h5
theorem Step.uniq {l m n : List Ru} (h : Step l m) (h' : Step l n) : m = n := by
  cases h with
  | drop h => cases h' with
    | drop k => rw [h.uniq k]
    | join k0 k => exact (h.notNoW k0).elim
  | join h0 h => cases h' with
    | drop k => exact (k.notNoW h0).elim
    | join k0 k => obtain ⟨rfl, rfl, rfl⟩ := h.uniq k; rfl
theorem Step.notStuck {l m : List Ru} (h : Step l m) (h' : Stuck l) : False := by
  cases h with
  | drop h => exact h.notNoW h'.1
  | join h0 h => exact h.notNoJ h'.2
theorem Steps.uniq {l m n : List Ru} (h : Steps l m) (h' : Steps l n) : m = n := by
  induction h with
  | done h => cases h' with
    | done k => rfl
    | more k k' => exact (k.notStuck h).elim
  | more h hh ih => cases h' with
    | done k => exact (h.notStuck k).elim
    | more k k' => obtain rfl := h.uniq k; exact ih k'
theorem Steps.stuck {l m : List Ru} (h : Steps l m) : Stuck m := by
  induction h with
  | done h => exact h
  | more h hh ih => exact ih

def NRs (l : List Ru) : Prop := ∀ r ∈ l, NR r
theorem at_mem {l : List Ru} {i : Nat} (h : i < l.length) : at' l i ∈ l := by
  rw [at', List.getD_eq_getElem?_getD, List.getElem?_eq_getElem h]; exact List.getElem_mem h
theorem mem_at {l : List Ru} {r : Ru} (h : r ∈ l) : ∃ i, i < l.length ∧ at' l i = r := by
  obtain ⟨i, hi, rfl⟩ := List.getElem_of_mem h
  exact ⟨i, hi, by rw [at', List.getD_eq_getElem?_getD, List.getElem?_eq_getElem hi]; rfl⟩
theorem mem_erase {α : Type} {l : List α} {i : Nat} {x : α} : x ∈ l.eraseIdx i ↔ ∃ j, j ≠ i ∧ l[j]? = some x := by
  rw [List.mem_eraseIdx_iff_getElem?]
theorem at_get {l : List Ru} {i : Nat} (h : i < l.length) : l[i]? = some (at' l i) := by
  rw [at', List.getD_eq_getElem?_getD, List.getElem?_eq_getElem h]; rfl

def allowsR (l : List Ru) (A : Nat → Nat) : Prop := ∃ r ∈ l, holdsR r A
theorem Step.keeps {l m : List Ru} (h : Step l m) (hl : NRs l) : NRs m ∧ m.length + 1 = l.length ∧ (l ≠ [] → m ≠ []) ∧ ∀ A, A64 A → (allowsR m A ↔ allowsR l A) := by
  cases h with
  | @drop i h =>
    obtain ⟨h1, h2, j, h3, h4, h5⟩ := h
    have hlen : (l.eraseIdx i).length + 1 = l.length := by rw [List.length_eraseIdx, if_pos h1]; omega
    refine ⟨fun r hr => hl r (List.mem_of_mem_eraseIdx hr), hlen, fun _ e => by rw [e] at hlen; simp at hlen; omega, fun A hA => ⟨?_, ?_⟩⟩
    · rintro ⟨r, hr, h⟩; exact ⟨r, List.mem_of_mem_eraseIdx hr, h⟩
    · rintro ⟨r, hr, h⟩
      obtain ⟨k, hk, rfl⟩ := mem_at hr
      by_cases e : k = i
      · subst e
        exact ⟨at' l j, mem_erase.2 ⟨j, fun q => h4 q.symm, at_get h3⟩, withinR_holds (hl _ (at_mem hk)) (hl _ (at_mem h3)) h5 hA h⟩
      · exact ⟨at' l k, mem_erase.2 ⟨k, e, at_get hk⟩, h⟩
  | @join i j r h0 h =>
    obtain ⟨h1, h2, h3, h4, h5⟩ := h
    have hi : i < l.length := by omega
    have nr := h5.normal (hl _ (at_mem hi)) (hl _ (at_mem h2))
    have hh : ∀ A, A64 A → (holdsR r A ↔ (holdsR (at' l i) A ∨ holdsR (at' l j) A)) := fun A hA => h5.holds (hl _ (at_mem hi)) (hl _ (at_mem h2)) hA
    have hlen : ((l.set i r).eraseIdx j).length + 1 = l.length := by rw [List.length_eraseIdx, List.length_set, if_pos h2]; omega
    have gi : (l.set i r)[i]? = some r := by rw [List.getElem?_set_self hi]
    have gk : ∀ k, k ≠ i → (l.set i r)[k]? = l[k]? := fun k hk => List.getElem?_set_ne (fun e => hk e.symm)
    refine ⟨fun s hs => ?_, hlen, fun _ e => by rw [e] at hlen; simp at hlen; omega, fun A hA => ⟨?_, ?_⟩⟩
    · obtain ⟨k, hk, hs⟩ := mem_erase.1 hs
      by_cases e : k = i
      · subst e; rw [gi] at hs; cases hs; exact nr
      · rw [gk k e] at hs; exact hl s (List.mem_of_getElem? hs)
    · rintro ⟨s, hs, h⟩
      obtain ⟨k, hk, hs⟩ := mem_erase.1 hs
      by_cases e : k = i
      · subst e; rw [gi] at hs; cases hs
        rcases (hh A hA).1 h with h | h
        · exact ⟨_, at_mem hi, h⟩
        · exact ⟨_, at_mem h2, h⟩
      · rw [gk k e] at hs; exact ⟨s, List.mem_of_getElem? hs, h⟩
    · rintro ⟨s, hs, h⟩
      obtain ⟨k, hk, rfl⟩ := mem_at hs
      by_cases e : k = i
      · subst e
        exact ⟨r, mem_erase.2 ⟨k, by omega, gi⟩, (hh A hA).2 (.inl h)⟩
      · by_cases e2 : k = j
        · subst e2
          exact ⟨r, mem_erase.2 ⟨i, by omega, gi⟩, (hh A hA).2 (.inr h)⟩
        · exact ⟨at' l k, mem_erase.2 ⟨k, e2, by rw [gk k e]; exact at_get hk⟩, h⟩
theorem Steps.keeps {l m : List Ru} (h : Steps l m) (hl : NRs l) : NRs m ∧ m.length ≤ l.length ∧ (l ≠ [] → m ≠ []) ∧ ∀ A, A64 A → (allowsR m A ↔ allowsR l A) := by
  induction h with
  | done h => exact ⟨hl, Nat.le_refl _, fun h => h, fun A _ => Iff.rfl⟩
  | more h hh ih =>
    obtain ⟨a, b, c, d⟩ := h.keeps hl
    obtain ⟨a', b', c', d'⟩ := ih a
    exact ⟨a', by omega, fun q => c' (c q), fun A hA => (d' A hA).trans (d A hA)⟩

/-- the rules, made normal -/
def normR (r : Ru) : Ru := (List.range 6).map fun i => normK (r.getD i K.zero)
/-- what the rules are made into -/
def IsSmall (rules out : List Ru) : Prop := ∃ l m, DistG ordR (rules.map normR) l ∧ Steps l m ∧ DistG ordR m out
theorem IsSmall.uniq {rules out out' : List Ru} (h : IsSmall rules out) (h' : IsSmall rules out') : out = out' := by
  obtain ⟨l, m, h1, h2, h3⟩ := h
  obtain ⟨l', m', k1, k2, k3⟩ := h'
  obtain rfl := distG_uniq linR h1 k1
  obtain rfl := h2.uniq k2
  exact distG_uniq linR h3 k3
theorem IsSmall.perm {rules rules' out : List Ru} (h : IsSmall rules out) (hp : ∀ r, r ∈ rules ↔ r ∈ rules') : IsSmall rules' out := by
  obtain ⟨l, m, h1, h2, h3⟩ := h
  refine ⟨l, m, ⟨h1.1, fun c => ?_⟩, h2, h3⟩
  rw [h1.2 c]
  simp only [List.mem_map]
  constructor
  · rintro ⟨a, ha, rfl⟩; exact ⟨a, (hp a).1 ha, rfl⟩
  · rintro ⟨a, ha, rfl⟩; exact ⟨a, (hp a).2 ha, rfl⟩

theorem normR_getD (r : Ru) {i : Nat} (h : i < 6) : (normR r).getD i K.zero = normK (r.getD i K.zero) := by
  simp [normR, List.getD_eq_getElem?_getD, h]
theorem normR_len (r : Ru) : (normR r).length = 6 := by simp [normR]
theorem normR_getD_hi (r : Ru) {i : Nat} (h : 6 ≤ i) : (normR r).getD i K.zero = K.zero := by
  rw [List.getD_eq_getElem?_getD, List.getElem?_eq_none (by rw [normR_len]; exact h)]; rfl
/-- six valid conditions of 64 bits -/
def VR (r : Ru) : Prop := r.length = 6 ∧ ∀ i, (r.getD i K.zero).ok ∧ validK (r.getD i K.zero) = true
theorem NR.vr {r : Ru} (h : NR r) : VR r := ⟨h.1, fun i => ⟨(h.2 i).ok, (h.2 i).valid⟩⟩
theorem normR_NR {r : Ru} (h : VR r) : NR (normR r) := by
  refine ⟨normR_len r, fun i => ?_⟩
  by_cases hi : i < 6
  · rw [normR_getD r hi]; exact normK_normal (h.2 i).1 (h.2 i).2
  · rw [normR_getD_hi r (by omega)]; exact normal_zero
theorem normR_holds {r : Ru} (h : VR r) {A : Nat → Nat} (hA : A64 A) : holdsR (normR r) A ↔ holdsR r A := by
  constructor
  · intro h1 i hi
    have := h1 i hi
    rw [normR_getD r hi, normK_holds (h.2 i).1 (h.2 i).2 (hA i)] at this; exact this
  · intro h1 i hi
    rw [normR_getD r hi, normK_holds (h.2 i).1 (h.2 i).2 (hA i)]; exact h1 i hi
theorem normR_same {r : Ru} (h : NR r) : normR r = r := by
  apply List.ext_getElem
  · rw [normR_len, h.1]
  · intro i h1 h2
    have h6 : i < 6 := by rw [normR_len] at h1; exact h1
    have e := normR_getD r h6
    rw [(h.2 i).norm, List.getD_eq_getElem?_getD, List.getElem?_eq_getElem h1, List.getD_eq_getElem?_getD, List.getElem?_eq_getElem h2] at e
    exact e

theorem NoW.nodup {m : List Ru} (h : NoW m) (hm : NRs m) : m.Nodup := by
  rw [List.nodup_iff_pairwise_ne, List.pairwise_iff_getElem]
  intro i j hi hj hij e
  have h1 := h i hi j hj (by omega)
  have ei : at' m i = m[i] := by rw [at', List.getD_eq_getElem?_getD, List.getElem?_eq_getElem hi]; rfl
  have ej : at' m j = m[j] := by rw [at', List.getD_eq_getElem?_getD, List.getElem?_eq_getElem hj]; rfl
  rw [ei, ej, ← e] at h1
  rw [withinR_self (hm _ (List.getElem_mem hi))] at h1
  exact absurd h1 (by decide)
/-- by members: no two different ones within each other or joining -/
theorem stuck_mem {m : List Ru} (hm : NRs m) : Stuck m ↔ (m.Nodup ∧ (∀ a ∈ m, ∀ b ∈ m, a ≠ b → withinR a b = false) ∧ (∀ a ∈ m, ∀ b ∈ m, a ≠ b → NoJoin a b)) := by
  constructor
  · intro h
    refine ⟨h.1.nodup hm, fun a ha b hb hne => ?_, fun a ha b hb hne => ?_⟩
    · obtain ⟨i, hi, rfl⟩ := mem_at ha
      obtain ⟨j, hj, rfl⟩ := mem_at hb
      exact h.1 i hi j hj (fun e => hne (by rw [e]))
    · obtain ⟨i, hi, rfl⟩ := mem_at ha
      obtain ⟨j, hj, rfl⟩ := mem_at hb
      rcases Nat.lt_trichotomy i j with g | g | g
      · exact h.2 i hi j g hj
      · subst g; exact absurd rfl hne
      · exact (h.2 j hj i g hi).symm
  · rintro ⟨h1, h2, h3⟩
    have hd : ∀ p q, p < m.length → q < m.length → p ≠ q → at' m p ≠ at' m q := by
      intro p q hp hq hne e
      have ep : at' m p = m[p] := by rw [at', List.getD_eq_getElem?_getD, List.getElem?_eq_getElem hp]; rfl
      have eq : at' m q = m[q] := by rw [at', List.getD_eq_getElem?_getD, List.getElem?_eq_getElem hq]; rfl
      rw [ep, eq] at e
      rw [List.nodup_iff_pairwise_ne, List.pairwise_iff_getElem] at h1
      rcases Nat.lt_or_gt_of_ne hne with g | g
      · exact h1 p q hp hq g e
      · exact h1 q p hq hp g e.symm
    refine ⟨fun p hp q hq hne => h2 _ (at_mem hp) _ (at_mem hq) (hd p q hp hq hne), fun p hp q hpq hq => h3 _ (at_mem hp) _ (at_mem hq) (hd p q hp hq (by omega))⟩

structure SmallFacts (rules out : List Ru) : Prop where
  nr : NRs out
  len : out.length ≤ rules.length
  ne : rules ≠ [] → out ≠ []
  allows : ∀ A, A64 A → (allowsR out A ↔ allowsR rules A)
  asc : AscG ordR out
  stuck : Stuck out

theorem IsSmall.facts {rules out : List Ru} (hr : ∀ r ∈ rules, VR r) (h : IsSmall rules out) : SmallFacts rules out := by
  obtain ⟨l, m, h1, h2, h3⟩ := h
  have hl : NRs l := fun r hr' => by
    have := (h1.2 r).1 hr'
    simp only [List.mem_map] at this
    obtain ⟨a, ha, rfl⟩ := this
    exact normR_NR (hr a ha)
  obtain ⟨k1, k2, k3, k4⟩ := h2.keeps hl
  have ho : NRs out := fun r hr' => k1 r ((h3.2 r).1 hr')
  have st := (stuck_mem k1).1 h2.stuck
  have lo : out.length ≤ m.length := nodup_len (ascG_nodup linR h3.1) fun c hc => (h3.2 c).1 hc
  have ll : l.length ≤ rules.length := by
    have := nodup_len (ascG_nodup linR h1.1) fun c hc => (h1.2 c).1 hc
    simpa using this
  refine ⟨ho, by omega, fun hne e => ?_, fun A hA => ?_, h3.1, (stuck_mem ho).2 ⟨ascG_nodup linR h3.1, fun a ha b hb => st.2.1 a ((h3.2 a).1 ha) b ((h3.2 b).1 hb), fun a ha b hb => st.2.2 a ((h3.2 a).1 ha) b ((h3.2 b).1 hb)⟩⟩
  · cases rules with
    | nil => exact hne rfl
    | cons a t =>
      have hl0 : l ≠ [] := fun e => by
        have := (h1.2 (normR a)).2 (by simp)
        rw [e] at this; simp at this
      have hm0 := k3 hl0
      cases m with
      | nil => exact hm0 rfl
      | cons b s =>
        have := (h3.2 b).2 (by simp)
        rw [e] at this; simp at this
  · have e1 : allowsR out A ↔ allowsR m A := by
      constructor
      · rintro ⟨r, hr', h⟩; exact ⟨r, (h3.2 r).1 hr', h⟩
      · rintro ⟨r, hr', h⟩; exact ⟨r, (h3.2 r).2 hr', h⟩
    have e2 : allowsR l A ↔ allowsR rules A := by
      constructor
      · rintro ⟨r, hr', h⟩
        have := (h1.2 r).1 hr'
        simp only [List.mem_map] at this
        obtain ⟨a, ha, rfl⟩ := this
        exact ⟨a, ha, (normR_holds (hr a ha) hA).1 h⟩
      · rintro ⟨r, hr', h⟩
        exact ⟨normR r, (h1.2 _).2 (List.mem_map.2 ⟨r, hr', rfl⟩), (normR_holds (hr r hr') hA).2 h⟩
    exact e1.trans ((k4 A hA).trans e2)
/-- once more: the same -/
theorem SmallFacts.again {rules out : List Ru} (h : SmallFacts rules out) : IsSmall out out := by
  refine ⟨out, out, ⟨h.asc, fun c => ?_⟩, .done h.stuck, distG_self h.asc⟩
  simp only [List.mem_map]
  constructor
  · intro hc; exact ⟨c, hc, normR_same (h.nr c hc)⟩
  · rintro ⟨a, ha, rfl⟩; rw [normR_same (h.nr a ha)]; exact ha
end Go.Proofs.Ytpbljegjinjmnaa
