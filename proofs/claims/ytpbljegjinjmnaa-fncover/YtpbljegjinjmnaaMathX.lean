/-
  PLAIN MATHEMATICS of learning: the rules of one group of calls, the entries of all. No Go in sight.
-/
import Derived.Test.YtpbljegjinjmnaaMathT
namespace Go.Proofs.Ytpbljegjinjmnaa
set_option linter.unusedVariables false

def pointK (v : Nat) : K := ⟨1, 18446744073709551615, v⟩
theorem ones_or {v : Nat} (h : v < 18446744073709551616) : 18446744073709551615 ||| v = 18446744073709551615 := by
  apply Nat.eq_of_testBit_eq
  intro i
  have e : (18446744073709551615 : Nat) = low 64 := low_64.symm
  rw [Nat.testBit_or, e, bit_low]
  by_cases hi : i < 64
  · simp [hi]
  · rw [bit_hi h (by omega)]; simp
theorem and_ones {v : Nat} (h : v < 18446744073709551616) : v &&& 18446744073709551615 = v := by
  apply Nat.eq_of_testBit_eq
  intro i
  have e : (18446744073709551615 : Nat) = low 64 := low_64.symm
  rw [Nat.testBit_and, e, bit_low]
  by_cases hi : i < 64
  · simp [hi]
  · rw [bit_hi h (by omega)]; simp
theorem pointK_normal {v : Nat} (h : v < 18446744073709551616) : Normal (pointK v) := .inr (.inl ⟨_, _, rfl, by decide, by decide, ones_or h⟩)
theorem pointK_holds {v x : Nat} (hx : x < 18446744073709551616) : holdsK (pointK v) x = true ↔ x = v := by
  rw [pointK, holds_mask, and_ones hx, beq_iff_eq]

theorem difN_const {vs : List Nat} {v : Nat} (h : ∀ i, i < vs.length → vs.getD i 0 = v) : ∀ n, n ≤ vs.length → difN vs n = 0
  | 0, _ => rfl
  | n + 1, hn => by
    rw [difN, difN_const h n (by omega), h n (by omega), h 0 (by omega)]
    simp
theorem minN_const {vs : List Nat} {v : Nat} (h : ∀ i, i < vs.length → vs.getD i 0 = v) : ∀ n, n + 1 ≤ vs.length → minN vs (n + 1) = v ∧ maxN vs (n + 1) = v
  | 0, hn => by rw [minN_1, maxN_1]; exact ⟨h 0 (by omega), h 0 (by omega)⟩
  | n + 1, hn => by
    obtain ⟨h1, h2⟩ := minN_const h n (by omega)
    rw [minN, maxN, h1, h2, h (n + 1) (by omega)]
    simp
theorem cover_const {vs : List Nat} {v : Nat} {f : Int} (hv : v < 18446744073709551616) (h0 : 0 < vs.length) (h : ∀ i, i < vs.length → vs.getD i 0 = v) (hf : 0 ≤ f ∧ f ≤ 2) : coverK vs f = pointK v := by
  have d := difN_const h vs.length (Nat.le_refl _)
  have ca : covA vs = 18446744073709551615 := by rw [covA, d]; rfl
  have cb : covB vs = v := by rw [covB, d, h 0 h0]; show v &&& 18446744073709551615 = v; exact and_ones hv
  obtain ⟨n, hn⟩ : ∃ n, vs.length = n + 1 := ⟨vs.length - 1, by omega⟩
  obtain ⟨m1, m2⟩ := minN_const h n (by omega)
  have e1 : newMask 18446744073709551615 v = pointK v := by simp [newMask, pointK]
  have e2 : newRange v v = pointK v := by
    unfold newRange
    rw [Nat.xor_self, if_pos ⟨by decide, by simp⟩]
    exact e1
  have e3 : moreK 18446744073709551615 = 0 := by decide
  unfold coverK
  rw [if_neg (by omega), ca, cb, hn, m1, m2, e3, e1, e2]
  split <;> rfl

/-- all lie between the smallest and the greatest, or v agrees with them in every bit in which they agree -/
def SpanN (vs : List Nat) (v : Nat) : Prop := (∃ i j, i < vs.length ∧ j < vs.length ∧ vs.getD i 0 ≤ v ∧ v ≤ vs.getD j 0) ∨ (∀ k b, (∀ i, i < vs.length → (vs.getD i 0).testBit k = b) → v.testBit k = b)
theorem minN_mem {vs : List Nat} : ∀ n, n + 1 ≤ vs.length → (∃ i, i < vs.length ∧ vs.getD i 0 = minN vs (n + 1)) ∧ (∃ i, i < vs.length ∧ vs.getD i 0 = maxN vs (n + 1))
  | 0, hn => ⟨⟨0, by omega, by rw [minN_1]⟩, ⟨0, by omega, by rw [maxN_1]⟩⟩
  | n + 1, hn => by
    obtain ⟨h1, h2⟩ := minN_mem (vs := vs) n (by omega)
    constructor
    · rw [minN]
      split
      · exact ⟨n + 1, by omega, rfl⟩
      · exact h1
    · rw [maxN]
      split
      · exact ⟨n + 1, by omega, rfl⟩
      · exact h2
theorem cover_span {vs : List Nat} (h : All64 vs) (h0 : 0 < vs.length) {f : Int} (hf : 0 ≤ f ∧ f ≤ 2) {v : Nat} (hv : v < 18446744073709551616) (hh : holdsK (coverK vs f) v = true) : SpanN vs v := by
  obtain ⟨n, hn⟩ : ∃ n, vs.length = n + 1 := ⟨vs.length - 1, by omega⟩
  unfold coverK at hh
  rw [if_neg (by omega)] at hh
  split at hh
  · right
    rw [newMask_holds (cov_valid _), holds_mask, beq_iff_eq] at hh
    intro k b hb
    have hk : ∀ i, (v.testBit i && (covA vs).testBit i) = (covB vs).testBit i := mask_bits.1 hh
    by_cases h64 : k < 64
    · have e := hk k
      have a1 : (covA vs).testBit k = true := (covA_bit h h0 h64).2 (by
        cases b with
        | false => left; exact (onesN_zero vs k _).2 hb
        | true => right; exact (onesN_all vs k _).2 hb)
      rw [a1, Bool.and_true] at e
      rw [e]
      cases b with
      | true => exact (covB_bit h h0 h64).2 ((onesN_all vs k _).2 hb)
      | false =>
        cases h1 : (covB vs).testBit k with
        | false => rfl
        | true =>
          have := (onesN_all vs k _).1 ((covB_bit h h0 h64).1 h1) 0 h0
          rw [hb 0 h0] at this; exact this.symm
    · rw [bit_hi hv (by omega)]
      have := hb 0 h0
      rw [bit_hi (h 0) (by omega)] at this; exact this
  · left
    rw [newRange_holds (min_max _ _) (maxN_lt h _) hv, holds_range, Bool.and_eq_true, decide_eq_true_eq, decide_eq_true_eq, hn] at hh
    obtain ⟨⟨i, hi, e1⟩, ⟨j, hj, e2⟩⟩   := minN_mem (vs := vs) n (by omega)
    exact ⟨i, j, hi, hj, by rw [e1]; exact hh.1, by rw [e2]; exact hh.2⟩
/-- of fewer values: the span lies within -/
theorem SpanN.sub {vs us : List Nat} {v : Nat} (h : SpanN vs v) (hs : ∀ x ∈ vs, x ∈ us) : SpanN us v := by
  have idx : ∀ i, i < vs.length → ∃ j, j < us.length ∧ us.getD j 0 = vs.getD i 0 := by
    intro i hi
    have : vs.getD i 0 ∈ us := hs _ (by rw [List.getD_eq_getElem?_getD, List.getElem?_eq_getElem hi]; exact List.getElem_mem hi)
    obtain ⟨j, hj, e⟩ := List.getElem_of_mem this
    exact ⟨j, hj, by rw [List.getD_eq_getElem?_getD, List.getElem?_eq_getElem hj]; exact e⟩
  rcases h with ⟨i, j, hi, hj, h1, h2⟩ | h
  · obtain ⟨i', hi', e1⟩ := idx i hi
    obtain ⟨j', hj', e2⟩ := idx j hj
    exact .inl ⟨i', j', hi', hj', by rw [e1]; exact h1, by rw [e2]; exact h2⟩
  · refine .inr fun k b hb => h k b fun i hi => ?_
    obtain ⟨j, hj, e⟩ := idx i hi
    rw [← e]; exact hb j hj

/-! the rules of one group: lists of six numbers -/
abbrev La := List Int
def colN (t : List La) (i : Nat) : List Nat := t.map fun a => (a.getD i 0).toNat
def exactR (a : La) : Ru := (List.range 6).map fun i => pointK (a.getD i 0).toNat
def coverR (t : List La) (f : Int) : Ru := (List.range 6).map fun i => coverK (colN t i) f
def withV (t : List La) (j : Nat) (v : Int) : List La := t.filter fun a => a.getD j 0 == v
def Diff (t : List La) (j : Nat) (d : List Int) : Prop := DistG ordI (t.map fun a => a.getD j 0) d
/-- j is the first that may be split -/
def MaySplit (t : List La) (sp : Int) (j : Nat) : Prop := ∃ d, Diff t j d ∧ 2 ≤ d.length ∧ (d.length : Int) ≤ sp
def IsRules (t : List La) (ex sp f : Int) (out : List Ru) : Prop :=
  if (t.length : Int) ≤ ex then out = t.map exactR
  else (∃ j d, j < 6 ∧ MaySplit t sp j ∧ (∀ i, i < j → ¬ MaySplit t sp i) ∧ Diff t j d ∧ out = d.map fun v => coverR (withV t j v) f) ∨ ((∀ i, i < 6 → ¬ MaySplit t sp i) ∧ out = [coverR t f])
theorem Diff.uniq {t : List La} {j : Nat} {d e : List Int} (h : Diff t j d) (h' : Diff t j e) : d = e := distG_uniq linI h h'
theorem IsRules.uniq {t : List La} {ex sp f : Int} {out out' : List Ru} (h : IsRules t ex sp f out) (h' : IsRules t ex sp f out') : out = out' := by
  unfold IsRules at h h'
  by_cases h0 : (t.length : Int) ≤ ex
  · rw [if_pos h0] at h h'; rw [h, h']
  · rw [if_neg h0] at h h'
    rcases h with ⟨j, d, h1, h2, h3, h4, rfl⟩ | ⟨h1, rfl⟩
    · rcases h' with ⟨j', d', k1, k2, k3, k4, rfl⟩ | ⟨k1, rfl⟩
      · have : j = j' := by
          rcases Nat.lt_trichotomy j j' with g | g | g
          · exact absurd h2 (k3 j g)
          · exact g
          · exact absurd k2 (h3 j' g)
        subst this
        rw [h4.uniq k4]
      · exact absurd h2 (k1 j h1)
    · rcases h' with ⟨j', d', k1, k2, k3, k4, rfl⟩ | ⟨k1, rfl⟩
      · exact absurd k2 (h1 j' k1)
      · rfl

/-- six numbers of 64 bits -/
def okLa (a : La) : Prop := a.length = 6 ∧ ∀ y ∈ a, 0 ≤ y ∧ y ≤ 18446744073709551615
theorem okLa.lt {a : La} (h : okLa a) (i : Nat) : argN a i < 18446744073709551616 ∧ 0 ≤ a.getD i 0 := by
  unfold argN
  by_cases hi : i < a.length
  · have := h.2 (a.getD i 0) (by rw [List.getD_eq_getElem?_getD, List.getElem?_eq_getElem hi]; exact List.getElem_mem hi)
    omega
  · rw [List.getD_eq_getElem?_getD, List.getElem?_eq_none (by omega)]; simp
theorem colN_len (t : List La) (i : Nat) : (colN t i).length = t.length := by simp [colN]
theorem colN_get {t : List La} (i : Nat) {q : Nat} (h : q < t.length) : (colN t i).getD q 0 = argN (t.getD q []) i := by
  simp [colN, argN, List.getD_eq_getElem?_getD, List.getElem?_eq_getElem h]
theorem colN_all {t : List La} (h : ∀ a ∈ t, okLa a) (i : Nat) : All64 (colN t i) := by
  intro q
  by_cases hq : q < t.length
  · rw [colN_get i hq]
    exact ((h _ (by rw [List.getD_eq_getElem?_getD, List.getElem?_eq_getElem hq]; exact List.getElem_mem hq)).lt i).1
  · rw [List.getD_eq_getElem?_getD, List.getElem?_eq_none (by rw [colN_len]; omega)]; simp
theorem colN_sub {t u : List La} (h : ∀ a ∈ t, a ∈ u) (i : Nat) : ∀ x ∈ colN t i, x ∈ colN u i := by
  intro x hx
  simp only [colN, List.mem_map] at hx ⊢
  obtain ⟨a, ha, rfl⟩ := hx
  exact ⟨a, h a ha, rfl⟩

theorem six_getD (g : Nat → K) {i : Nat} (h : i < 6) : ((List.range 6).map g).getD i K.zero = g i := by
  simp [List.getD_eq_getElem?_getD, h]
theorem six_NR {g : Nat → K} (h : ∀ i, i < 6 → Normal (g i)) : NR ((List.range 6).map g) := by
  refine ⟨by simp, fun i => ?_⟩
  by_cases hi : i < 6
  · rw [six_getD g hi]; exact h i hi
  · rw [List.getD_eq_getElem?_getD, List.getElem?_eq_none (by simpa using hi)]; exact normal_zero
theorem coverR_NR {t : List La} (h : ∀ a ∈ t, okLa a) (f : Int) : NR (coverR t f) := six_NR fun i _ => coverK_normal (colN_all h i) f
theorem exactR_NR {a : La} (h : okLa a) : NR (exactR a) := six_NR fun i _ => pointK_normal (h.lt i).1
theorem coverR_holds {t : List La} (h : ∀ a ∈ t, okLa a) (f : Int) {a : La} (ha : a ∈ t) : holdsR (coverR t f) (argN a) := by
  intro i hi
  rw [coverR, six_getD _ hi]
  obtain ⟨q, hq, rfl⟩ := List.getElem_of_mem ha
  have := coverK_holds (colN_all h i) f (j := q) (by rw [colN_len]; exact hq)
  rw [colN_get i hq, List.getD_eq_getElem?_getD, List.getElem?_eq_getElem hq] at this
  exact this
theorem exactR_holds {a : La} (h : okLa a) : holdsR (exactR a) (argN a) := by
  intro i hi
  rw [exactR, six_getD _ hi]
  exact (pointK_holds (h.lt i).1).2 rfl
theorem coverR_span {t u : List La} (h : ∀ a ∈ t, okLa a) (h0 : t ≠ []) (hs : ∀ a ∈ t, a ∈ u) {f : Int} (hf : 0 ≤ f ∧ f ≤ 2) {A : Nat → Nat} (hA : A64 A) (hh : holdsR (coverR t f) A) : ∀ i, i < 6 → SpanN (colN u i) (A i) := by
  intro i hi
  have := hh i hi
  rw [coverR, six_getD _ hi] at this
  refine (cover_span (colN_all h i) ?_ hf (hA i) this).sub (colN_sub hs i)
  rw [colN_len]
  cases t with
  | nil => exact absurd rfl h0
  | cons a t => simp
theorem exactR_span {u : List La} {a : La} (h : okLa a) (ha : a ∈ u) {A : Nat → Nat} (hA : A64 A) (hh : holdsR (exactR a) A) : ∀ i, i < 6 → SpanN (colN u i) (A i) := by
  intro i hi
  have := hh i hi
  rw [exactR, six_getD _ hi] at this
  have e := (pointK_holds (hA i)).1 this
  obtain ⟨q, hq, e2⟩ := List.getElem_of_mem ha
  have e3 : (colN u i).getD q 0 = A i := by
    rw [colN_get i hq, List.getD_eq_getElem?_getD, List.getElem?_eq_getElem hq, e, e2]; rfl
  exact .inl ⟨q, q, by rw [colN_len]; exact hq, by rw [colN_len]; exact hq, by omega, by omega⟩

structure RulesFacts (t : List La) (out : List Ru) : Prop where
  nr : NRs out
  ne : out ≠ []
  len : out.length ≤ t.length
  l200 : out.length ≤ 200
  yes : ∀ a ∈ t, allowsR out (argN a)
  span : ∀ A, A64 A → allowsR out A → ∀ i, i < 6 → SpanN (colN t i) (A i)

theorem IsRules.facts {t : List La} {ex sp f : Int} {out : List Ru} (ht : ∀ a ∈ t, okLa a) (h0 : t ≠ []) (hx : ex ≤ 200) (hsp : sp ≤ 200) (hf : 0 ≤ f ∧ f ≤ 2) (h : IsRules t ex sp f out) : RulesFacts t out := by
  have tl : 1 ≤ t.length := by
    cases t with
    | nil => exact absurd rfl h0
    | cons a t => simp
  unfold IsRules at h
  by_cases h1 : (t.length : Int) ≤ ex
  · rw [if_pos h1] at h
    subst h
    refine ⟨?_, by simpa using h0, by simp, by simp; omega, ?_, ?_⟩
    · intro r hr
      simp only [List.mem_map] at hr
      obtain ⟨a, ha, rfl⟩ := hr
      exact exactR_NR (ht a ha)
    · intro a ha; exact ⟨exactR a, List.mem_map.2 ⟨a, ha, rfl⟩, exactR_holds (ht a ha)⟩
    · rintro A hA ⟨r, hr, h⟩
      simp only [List.mem_map] at hr
      obtain ⟨a, ha, rfl⟩ := hr
      exact exactR_span (ht a ha) ha hA h
  · rw [if_neg h1] at h
    rcases h with ⟨j, d, hj, ⟨d', hd', hd2, hd3⟩, _, hd, rfl⟩ | ⟨_, rfl⟩
    · obtain rfl := hd.uniq hd'
      have hw : ∀ v, ∀ a ∈ withV t j v, okLa a := fun v a ha => ht a ((List.mem_filter.1 ha).1)
      have dl : d.length ≤ t.length := by
        have := nodup_len (ascG_nodup linI hd.1) fun c hc => (hd.2 c).1 hc
        simpa using this
      refine ⟨?_, ?_, by simpa using dl, by simp; omega, ?_, ?_⟩
      · intro r hr
        simp only [List.mem_map] at hr
        obtain ⟨v, _, rfl⟩ := hr
        exact coverR_NR (hw v) f
      · intro e
        have : (d.map fun v => coverR (withV t j v) f).length = 0 := by rw [e]; rfl
        simp at this
        rw [this] at hd2; simp at hd2
      · intro a ha
        have hv : a.getD j 0 ∈ d := (hd.2 _).2 (List.mem_map.2 ⟨a, ha, rfl⟩)
        exact ⟨_, List.mem_map.2 ⟨_, hv, rfl⟩, coverR_holds (hw _) f (by simp [withV, ha])⟩
      · rintro A hA ⟨r, hr, h⟩
        simp only [List.mem_map] at hr
        obtain ⟨v, hv, rfl⟩ := hr
        have := (hd.2 v).1 hv
        simp only [List.mem_map] at this
        obtain ⟨a, ha, rfl⟩ := this
        refine coverR_span (hw _) ?_ (fun b hb => (List.mem_filter.1 hb).1) hf hA h
        intro e
        have : a ∈ withV t j (a.getD j 0) := by simp [withV, ha]
        rw [e] at this; simp at this
    · refine ⟨?_, by simp, by simpa using tl, by simp, ?_, ?_⟩
      · intro r hr
        simp only [List.mem_singleton] at hr
        subst hr; exact coverR_NR ht f
      · intro a ha; exact ⟨_, by simp, coverR_holds ht f ha⟩
      · rintro A hA ⟨r, hr, h⟩
        simp only [List.mem_singleton] at hr
        subst hr
        exact coverR_span ht h0 (fun a h => h) hf hA h
end Go.Proofs.Ytpbljegjinjmnaa
