/-
  PLAIN MATHEMATICS of orders: the different ones of a list, ascending. No Go in sight.
-/
import Derived.Test.YtpbljegjinjmnaaMathN
namespace Go.Proofs.Ytpbljegjinjmnaa
set_option linter.unusedVariables false

/-- an order that tells by a number's sign -/
structure Lin {α : Type} (ord : α → α → Int) : Prop where
  self : ∀ a, ord a a = 0
  zero : ∀ a b, ord a b = 0 → a = b
  anti : ∀ a b, ord a b = - ord b a
  trans : ∀ a b c, ord a b < 0 → ord b c < 0 → ord a c < 0

section
variable {α : Type} {ord : α → α → Int}
theorem Lin.le_lt (L : Lin ord) {a b c : α} (h : ord a b ≤ 0) (h' : ord b c < 0) : ord a c < 0 := by
  by_cases e : ord a b = 0
  · rw [L.zero _ _ e]; exact h'
  · exact L.trans _ _ _ (by omega) h'
theorem Lin.lt_le (L : Lin ord) {a b c : α} (h : ord a b < 0) (h' : ord b c ≤ 0) : ord a c < 0 := by
  by_cases e : ord b c = 0
  · rw [← L.zero _ _ e]; exact h
  · exact L.trans _ _ _ h (by omega)
theorem Lin.le_trans (L : Lin ord) {a b c : α} (h : ord a b ≤ 0) (h' : ord b c ≤ 0) : ord a c ≤ 0 := by
  by_cases e : ord a b = 0
  · rw [L.zero _ _ e]; exact h'
  · have := L.lt_le (a := a) (b := b) (c := c) (by omega) h'; omega
theorem Lin.tot (L : Lin ord) (a b : α) : ord a b < 0 ∨ a = b ∨ ord b a < 0 := by
  have := L.anti a b
  by_cases h : ord a b = 0
  · exact .inr (.inl (L.zero _ _ h))
  · by_cases h2 : ord a b < 0
    · exact .inl h2
    · exact .inr (.inr (by omega))

def AscG (ord : α → α → Int) (r : List α) : Prop := r.Pairwise fun a b => ord a b < 0
def DistG (ord : α → α → Int) (cs r : List α) : Prop := AscG ord r ∧ ∀ c, c ∈ r ↔ c ∈ cs

theorem ascG_uniq (L : Lin ord) {r s : List α} (h : AscG ord r) (h' : AscG ord s) (e : ∀ c, c ∈ r ↔ c ∈ s) : r = s := by
  induction r generalizing s with
  | nil => cases s with
    | nil => rfl
    | cons b s => exact absurd ((e b).2 (by simp)) (by simp)
  | cons a r ih => cases s with
    | nil => exact absurd ((e a).1 (by simp)) (by simp)
    | cons b s =>
      have ha := List.pairwise_cons.1 h
      have hb := List.pairwise_cons.1 h'
      have eab : a = b := by
        have m1 := (e a).1 (by simp)
        have m2 := (e b).2 (by simp)
        simp only [List.mem_cons] at m1 m2
        rcases m1 with m1 | m1
        · exact m1
        · rcases m2 with m2 | m2
          · exact m2.symm
          · have g1 := hb.1 a m1
            have g2 := ha.1 b m2
            have := L.anti a b
            omega
      subst eab
      congr 1
      refine ih ha.2 hb.2 fun c => ?_
      constructor
      · intro hc
        have := (e c).1 (by simp [hc])
        simp only [List.mem_cons] at this
        rcases this with rfl | this
        · have := ha.1 c hc; rw [L.self] at this; omega
        · exact this
      · intro hc
        have := (e c).2 (by simp [hc])
        simp only [List.mem_cons] at this
        rcases this with rfl | this
        · have := hb.1 c hc; rw [L.self] at this; omega
        · exact this
theorem distG_uniq (L : Lin ord) {cs r s : List α} (h : DistG ord cs r) (h' : DistG ord cs s) : r = s := ascG_uniq L h.1 h'.1 fun c => (h.2 c).trans (h'.2 c).symm
theorem distG_perm {cs l r : List α} (h : DistG ord l r) (hp : ∀ c, c ∈ l ↔ c ∈ cs) : DistG ord cs r := ⟨h.1, fun c => (h.2 c).trans (hp c)⟩
theorem distG_self {r : List α} (h : AscG ord r) : DistG ord r r := ⟨h, fun _ => Iff.rfl⟩
theorem ascG_nodup (L : Lin ord) {r : List α} (h : AscG ord r) : r.Nodup := h.imp fun {a b} hab e => by subst e; rw [L.self] at hab; omega

/-- c behind out, unless it stands there already -/
def pushG (ord : α → α → Int) (out : List α) (c : α) : List α := if (∃ z, out.getLast? = some z ∧ ord z c = 0) then out else out ++ [c]
theorem pushG_nil (c : α) : pushG ord [] c = [c] := by simp [pushG]
theorem pushG_same {out : List α} {c z : α} (h : out.getLast? = some z) (h0 : ord z c = 0) : pushG ord out c = out := if_pos ⟨z, h, h0⟩
theorem pushG_diff {out : List α} {c z : α} (h : out.getLast? = some z) (h0 : ord z c ≠ 0) : pushG ord out c = out ++ [c] := if_neg (by rintro ⟨y, h1, h2⟩; rw [h] at h1; cases h1; exact h0 h2)
theorem pushG_last (L : Lin ord) (out : List α) (c : α) : (pushG ord out c).getLast? = some c := by
  unfold pushG
  split
  · rename_i h
    obtain ⟨z, h1, h2⟩ := h
    rw [h1, L.zero _ _ h2]
  · simp
theorem pushG_asc (L : Lin ord) {out : List α} {c : α} (h : AscG ord out) (hc : ∀ o ∈ out, ord o c ≤ 0) : AscG ord (pushG ord out c) ∧ (∀ d, d ∈ pushG ord out c ↔ d ∈ out ∨ d = c) := by
  rcases List.eq_nil_or_concat out with rfl | ⟨t, z, rfl⟩
  · rw [pushG_nil]; simp [AscG]
  · have hz : (t.concat z).getLast? = some z := by simp
    by_cases e : ord z c = 0
    · rw [pushG_same hz e]
      obtain rfl := L.zero _ _ e
      refine ⟨h, fun d => ⟨fun hd => .inl hd, fun hd => ?_⟩⟩
      rcases hd with hd | rfl
      · exact hd
      · simp
    · rw [pushG_diff hz e]
      refine ⟨?_, fun d => by simp [or_assoc]⟩
      refine List.pairwise_append.2 ⟨h, by simp, fun a ha b hb => ?_⟩
      simp only [List.mem_singleton] at hb
      subst hb
      have hzc : ord z b < 0 := by have := hc z (by simp); omega
      simp only [List.concat_eq_append, List.mem_append, List.mem_singleton] at ha
      rcases ha with ha | rfl
      · have h2 : ord a z < 0 := by
          have := h
          unfold AscG at this
          rw [List.concat_eq_append] at this
          exact (List.pairwise_append.1 this).2.2 a ha z (by simp)
        exact L.trans _ _ _ h2 hzc
      · exact hzc

theorem fold_pushG (L : Lin ord) {l : List α} (hl : l.Pairwise fun a b => ord a b ≤ 0) : DistG ord l (l.foldl (pushG ord) []) := by
  have key : ∀ (l out cs : List α), (l.Pairwise fun a b => ord a b ≤ 0) → AscG ord out → (∀ a ∈ out, ∀ b ∈ l, ord a b ≤ 0) → (∀ c, c ∈ cs ↔ c ∈ out ∨ c ∈ l) → DistG ord cs (l.foldl (pushG ord) out) := by
    intro l
    induction l with
    | nil => intro out cs _ h2 _ h4; exact ⟨h2, fun c => by rw [h4 c]; simp⟩
    | cons a l ih =>
      intro out cs h1 h2 h3 h4
      have g := List.pairwise_cons.1 h1
      obtain ⟨p1, p2⟩ := pushG_asc L h2 (fun o ho => h3 o ho a (by simp))
      refine ih (pushG ord out a) cs g.2 p1 ?_ ?_
      · intro c hc b hb
        rcases (p2 c).1 hc with hc | rfl
        · exact h3 c hc b (by simp [hb])
        · exact g.1 b hb
      · intro c
        rw [h4 c, p2 c]
        simp only [List.mem_cons]
        constructor
        · rintro (q | q | q)
          · exact .inl (.inl q)
          · exact .inl (.inr q)
          · exact .inr q
        · rintro ((q | q) | q)
          · exact .inl q
          · exact .inr (.inl q)
          · exact .inr (.inr q)
  exact key l [] l hl List.Pairwise.nil (by simp) (by simp)

/-- what is kept of the first k -/
def compG (ord : α → α → Int) (l : List α) (k : Nat) : List α := (l.take k).foldl (pushG ord) []
theorem compG_zero (l : List α) : compG ord l 0 = [] := rfl
theorem compG_succ {l : List α} {k : Nat} (h : k < l.length) : compG ord l (k + 1) = pushG ord (compG ord l k) l[k] := by
  have e : l.take (k + 1) = l.take k ++ [l[k]] := by
    rw [List.take_add_one, List.getElem?_eq_getElem h]; rfl
  rw [compG, e, List.foldl_append]; rfl
theorem compG_last (L : Lin ord) {l : List α} {k : Nat} (h : k < l.length) : (compG ord l (k + 1)).getLast? = some l[k] := by
  rw [compG_succ h]; exact pushG_last L _ _
theorem compG_one {l : List α} (h : 0 < l.length) : compG ord l 1 = [l[0]] := by
  rw [compG_succ h, compG_zero, pushG_nil]
theorem compG_same (L : Lin ord) {l : List α} {k : Nat} (h : k + 1 < l.length) (he : ord l[k + 1] l[k] = 0) : compG ord l (k + 2) = compG ord l (k + 1) := by
  rw [compG_succ h, pushG_same (compG_last L (by omega))]
  rw [L.anti, he]; rfl
theorem compG_diff (L : Lin ord) {l : List α} {k : Nat} (h : k + 1 < l.length) (he : ord l[k + 1] l[k] ≠ 0) : compG ord l (k + 2) = compG ord l (k + 1) ++ [l[k + 1]] := by
  rw [compG_succ h, pushG_diff (compG_last L (by omega))]
  rw [L.anti]; omega
theorem compG_len (l : List α) (k : Nat) (h : k ≤ l.length) : (compG ord l k).length ≤ k := by
  induction k with
  | zero => simp [compG_zero]
  | succ k ih =>
    have := ih (by omega)
    rw [compG_succ (by omega), pushG]
    split
    · omega
    · simp; omega
theorem compG_all (L : Lin ord) {l : List α} {k : Nat} (h : k ≤ l.length) (hd : ∀ j (hj : j + 1 < k), ord (l[j + 1]'(by omega)) (l[j]'(by omega)) ≠ 0) : compG ord l k = l.take k := by
  induction k with
  | zero => simp [compG_zero]
  | succ k ih =>
    have e : l.take (k + 1) = l.take k ++ [l[k]] := by
      rw [List.take_add_one, List.getElem?_eq_getElem (by omega)]; rfl
    cases k with
    | zero => rw [compG_one (by omega), e]; simp
    | succ k =>
      rw [compG_diff L (by omega) (hd k (by omega)), ih (by omega) (fun j hj => hd j (by omega)), e]
theorem compG_dist (L : Lin ord) {l : List α} (hl : l.Pairwise fun a b => ord a b ≤ 0) : DistG ord l (compG ord l l.length) := by
  rw [compG, List.take_length]; exact fold_pushG L hl

/-- taking out the smallest again and again: what is behind 'last' and not yet out -/
structure SelG (ord : α → α → Int) (cs out : List α) : Prop where
  asc : AscG ord out
  sub : ∀ c ∈ out, c ∈ cs
  low : ∀ c ∈ cs, c ∈ out ∨ ∀ o ∈ out, ord o c < 0
theorem SelG.nil (cs : List α) : SelG ord cs [] := ⟨List.Pairwise.nil, by simp, fun c hc => .inr (by simp)⟩
theorem SelG.next (L : Lin ord) {cs out : List α} {b : α} (h : SelG ord cs out) (hb : b ∈ cs) (h1 : ∀ o ∈ out, ord o b < 0) (h2 : ∀ c ∈ cs, (∀ o ∈ out, ord o c < 0) → ord b c ≤ 0) : SelG ord cs (out ++ [b]) := by
  refine ⟨List.pairwise_append.2 ⟨h.asc, by simp, fun a ha c hc => ?_⟩, ?_, ?_⟩
  · simp only [List.mem_singleton] at hc; subst hc; exact h1 a ha
  · intro c hc
    simp only [List.mem_append, List.mem_singleton] at hc
    rcases hc with hc | rfl
    · exact h.sub c hc
    · exact hb
  · intro c hc
    rcases h.low c hc with g | g
    · exact .inl (by simp [g])
    · by_cases e : ord b c = 0
      · exact .inl (by simp [L.zero _ _ e])
      · refine .inr fun o ho => ?_
        simp only [List.mem_append, List.mem_singleton] at ho
        rcases ho with ho | rfl
        · exact g o ho
        · have := h2 c hc g; omega
theorem SelG.done {cs out : List α} (h : SelG ord cs out) (hn : ∀ c ∈ cs, ¬ ∀ o ∈ out, ord o c < 0) : DistG ord cs out :=
  ⟨h.asc, fun c => ⟨h.sub c, fun hc => (h.low c hc).resolve_right (hn c hc)⟩⟩
/-- the last one of out is enough -/
theorem asc_last (L : Lin ord) {out : List α} {z c : α} (h : AscG ord out) (hz : out.getLast? = some z) : (∀ o ∈ out, ord o c < 0) ↔ ord z c < 0 := by
  rcases List.eq_nil_or_concat out with rfl | ⟨t, y, rfl⟩
  · cases hz
  · have : y = z := by simpa using hz
    subst this
    constructor
    · intro h1; exact h1 y (by simp)
    · intro h1 o ho
      simp only [List.concat_eq_append, List.mem_append, List.mem_singleton] at ho
      rcases ho with ho | rfl
      · have h2 : ord o y < 0 := by
          have := h
          unfold AscG at this
          rw [List.concat_eq_append] at this
          exact (List.pairwise_append.1 this).2.2 o ho y (by simp)
        exact L.trans _ _ _ h2 h1
      · exact h1
theorem nodup_len {r : List α} : ∀ {cs : List α}, r.Nodup → (∀ c ∈ r, c ∈ cs) → r.length ≤ cs.length := by
  induction r with
  | nil => intro cs _ _; simp
  | cons a r ih =>
    intro cs hn hs
    obtain ⟨s, t, rfl⟩ := List.append_of_mem (hs a (by simp))
    have h1 := List.nodup_cons.1 hn
    have := ih (cs := s ++ t) h1.2 (fun c hc => by
      have h2 := hs c (by simp [hc])
      simp only [List.mem_append, List.mem_cons] at h2 ⊢
      rcases h2 with h2 | rfl | h2
      · exact .inl h2
      · exact absurd hc h1.1
      · exact .inr h2)
    simp only [List.length_append, List.length_cons] at this ⊢
    omega
theorem SelG.len (L : Lin ord) {cs out : List α} (h : SelG ord cs out) : out.length ≤ cs.length :=
  nodup_len (ascG_nodup L h.asc) h.sub
end
end Go.Proofs.Ytpbljegjinjmnaa
