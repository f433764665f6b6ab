/-
  MathG, MathO, CovM, MathJ, MathK, MathT
-/
import Derived.Test.YtoamapdfcdefjaaGreatQ01
import Derived.Lib.BitFns
namespace Go.Proofs.YtoamapdfcdefjaaGreat
set_option linter.unusedVariables false

/-- an order that tells by a number's sign -/
structure Lin {α : Type} (ord : α → α → Int) : Prop where
  self : ∀ a, ord a a = 0
  zero : ∀ a b, ord a b = 0 → a = b
  anti : ∀ a b, ord a b = - ord b a
  trans : ∀ a b c, ord a b < 0 → ord b c < 0 → ord a c < 0

section
variable {α : Type} {ord : α → α → Int}
theorem Lin.le_lt (L : Lin ord) {a b c : α} (h : ord a b ≤ 0) (h' : ord b c < 0) : ord a c < 0 := by
  by_cases e : ord a b = 0
  · rw [L.zero _ _ e]; exact h'
  · exact L.trans _ _ _ (by omega) h'
theorem Lin.lt_le (L : Lin ord) {a b c : α} (h : ord a b < 0) (h' : ord b c ≤ 0) : ord a c < 0 := by
  by_cases e : ord b c = 0
  · rw [← L.zero _ _ e]; exact h
  · exact L.trans _ _ _ h (by omega)
theorem Lin.le_trans (L : Lin ord) {a b c : α} (h : ord a b ≤ 0) (h' : ord b c ≤ 0) : ord a c ≤ 0 := by
  by_cases e : ord a b = 0
  · rw [L.zero _ _ e]; exact h'
  · have := L.lt_le (a := a) (b := b) (c := c) (by omega) h'; omega
theorem Lin.tot (L : Lin ord) (a b : α) : ord a b < 0 ∨ a = b ∨ ord b a < 0 := by
  have := L.anti a b
  by_cases h : ord a b = 0
  · exact .inr (.inl (L.zero _ _ h))
  · by_cases h2 : ord a b < 0
    · exact .inl h2
    · exact .inr (.inr (by omega))

def AscG (ord : α → α → Int) (r : List α) : Prop := r.Pairwise fun a b => ord a b < 0
def DistG (ord : α → α → Int) (cs r : List α) : Prop := AscG ord r ∧ ∀ c, c ∈ r ↔ c ∈ cs

theorem ascG_uniq (L : Lin ord) {r s : List α} (h : AscG ord r) (h' : AscG ord s) (e : ∀ c, c ∈ r ↔ c ∈ s) : r = s := by
  induction r generalizing s with
  | nil => cases s with
    | nil => rfl
    | cons b s => exact absurd ((e b).2 (by simp)) (by simp)
  | cons a r ih => cases s with
    | nil => exact absurd ((e a).1 (by simp)) (by simp)
    | cons b s =>
      have ha := List.pairwise_cons.1 h
      have hb := List.pairwise_cons.1 h'
      have eab : a = b := by
        have m1 := (e a).1 (by simp)
        have m2 := (e b).2 (by simp)
        simp only [List.mem_cons] at m1 m2
        rcases m1 with m1 | m1
        · exact m1
        · rcases m2 with m2 | m2
          · exact m2.symm
          · have g1 := hb.1 a m1
            have g2 := ha.1 b m2
            have := L.anti a b
            omega
      subst eab
      congr 1
      refine ih ha.2 hb.2 fun c => ?_
      constructor
      · intro hc
        have := (e c).1 (by simp [hc])
        simp only [List.mem_cons] at this
        rcases this with rfl | this
        · have := ha.1 c hc; rw [L.self] at this; omega
        · exact this
      · intro hc
        have := (e c).2 (by simp [hc])
        simp only [List.mem_cons] at this
        rcases this with rfl | this
        · have := hb.1 c hc; rw [L.self] at this; omega
        · exact this
theorem distG_uniq (L : Lin ord) {cs r s : List α} (h : DistG ord cs r) (h' : DistG ord cs s) : r = s := ascG_uniq L h.1 h'.1 fun c => (h.2 c).trans (h'.2 c).symm
theorem distG_perm {cs l r : List α} (h : DistG ord l r) (hp : ∀ c, c ∈ l ↔ c ∈ cs) : DistG ord cs r := ⟨h.1, fun c => (h.2 c).trans (hp c)⟩
theorem distG_self {r : List α} (h : AscG ord r) : DistG ord r r := ⟨h, fun _ => Iff.rfl⟩
theorem ascG_nodup (L : Lin ord) {r : List α} (h : AscG ord r) : r.Nodup := h.imp fun {a b} hab e => by subst e; rw [L.self] at hab; omega

/-- c behind out, unless it stands there already -/
def pushG (ord : α → α → Int) (out : List α) (c : α) : List α := if (∃ z, out.getLast? = some z ∧ ord z c = 0) then out else out ++ [c]
theorem pushG_nil (c : α) : pushG ord [] c = [c] := by simp [pushG]
theorem pushG_same {out : List α} {c z : α} (h : out.getLast? = some z) (h0 : ord z c = 0) : pushG ord out c = out := if_pos ⟨z, h, h0⟩
theorem pushG_diff {out : List α} {c z : α} (h : out.getLast? = some z) (h0 : ord z c ≠ 0) : pushG ord out c = out ++ [c] := if_neg (by rintro ⟨y, h1, h2⟩; rw [h] at h1; cases h1; exact h0 h2)
theorem pushG_last (L : Lin ord) (out : List α) (c : α) : (pushG ord out c).getLast? = some c := by
  unfold pushG
  split
  · rename_i h
    obtain ⟨z, h1, h2⟩ := h
    rw [h1, L.zero _ _ h2]
  · simp
theorem pushG_asc (L : Lin ord) {out : List α} {c : α} (h : AscG ord out) (hc : ∀ o ∈ out, ord o c ≤ 0) : AscG ord (pushG ord out c) ∧ (∀ d, d ∈ pushG ord out c ↔ d ∈ out ∨ d = c) := by
  rcases List.eq_nil_or_concat out with rfl | ⟨t, z, rfl⟩
  · rw [pushG_nil]; simp [AscG]
  · have hz : (t.concat z).getLast? = some z := by simp
    by_cases e : ord z c = 0
    · rw [pushG_same hz e]
      obtain rfl := L.zero _ _ e
      refine ⟨h, fun d => ⟨fun hd => .inl hd, fun hd => ?_⟩⟩
      rcases hd with hd | rfl
      · exact hd
      · simp
    · rw [pushG_diff hz e]
      refine ⟨?_, fun d => by simp [or_assoc]⟩
      refine List.pairwise_append.2 ⟨h, by simp, fun a ha b hb => ?_⟩
      simp only [List.mem_singleton] at hb
      subst hb
      have hzc : ord z b < 0 := by have := hc z (by simp); omega
      simp only [List.concat_eq_append, List.mem_append, List.mem_singleton] at ha
      rcases ha with ha | rfl
      · have h2 : ord a z < 0 := by
          have := h
          unfold AscG at this
          rw [List.concat_eq_append] at this
          exact (List.pairwise_append.1 this).2.2 a ha z (by simp)
        exact L.trans _ _ _ h2 hzc
      · exact hzc

theorem fold_pushG (L : Lin ord) {l : List α} (hl : l.Pairwise fun a b => ord a b ≤ 0) : DistG ord l (l.foldl (pushG ord) []) := by
  have key : ∀ (l out cs : List α), (l.Pairwise fun a b => ord a b ≤ 0) → AscG ord out → (∀ a ∈ out, ∀ b ∈ l, ord a b ≤ 0) → (∀ c, c ∈ cs ↔ c ∈ out ∨ c ∈ l) → DistG ord cs (l.foldl (pushG ord) out) := by
    intro l
    induction l with
    | nil => intro out cs _ h2 _ h4; exact ⟨h2, fun c => by rw [h4 c]; simp⟩
    | cons a l ih =>
      intro out cs h1 h2 h3 h4
      have g := List.pairwise_cons.1 h1
      obtain ⟨p1, p2⟩ := pushG_asc L h2 (fun o ho => h3 o ho a (by simp))
      refine ih (pushG ord out a) cs g.2 p1 ?_ ?_
      · intro c hc b hb
        rcases (p2 c).1 hc with hc | rfl
        · exact h3 c hc b (by simp [hb])
        · exact g.1 b hb
      · intro c
        rw [h4 c, p2 c]
        simp only [List.mem_cons]
        constructor
        · rintro (q | q | q)
          · exact .inl (.inl q)
          · exact .inl (.inr q)
          · exact .inr q
        · rintro ((q | q) | q)
          · exact .inl q
          · exact .inr (.inl q)
          · exact .inr (.inr q)
  exact key l [] l hl List.Pairwise.nil (by simp) (by simp)

/-- what is kept of the first k -/
def compG (ord : α → α → Int) (l : List α) (k : Nat) : List α := (l.take k).foldl (pushG ord) []
theorem compG_zero (l : List α) : compG ord l 0 = [] := rfl
theorem compG_succ {l : List α} {k : Nat} (h : k < l.length) : compG ord l (k + 1) = pushG ord (compG ord l k) l[k] := by
  have e : l.take (k + 1) = l.take k ++ [l[k]] := by
    rw [List.take_add_one, List.getElem?_eq_getElem h]; rfl
  rw [compG, e, List.foldl_append]; rfl
theorem compG_last (L : Lin ord) {l : List α} {k : Nat} (h : k < l.length) : (compG ord l (k + 1)).getLast? = some l[k] := by
  rw [compG_succ h]; exact pushG_last L _ _
theorem compG_one {l : List α} (h : 0 < l.length) : compG ord l 1 = [l[0]] := by
  rw [compG_succ h, compG_zero, pushG_nil]
theorem compG_same (L : Lin ord) {l : List α} {k : Nat} (h : k + 1 < l.length) (he : ord l[k + 1] l[k] = 0) : compG ord l (k + 2) = compG ord l (k + 1) := by
  rw [compG_succ h, pushG_same (compG_last L (by omega))]
  rw [L.anti, he]; rfl
theorem compG_diff (L : Lin ord) {l : List α} {k : Nat} (h : k + 1 < l.length) (he : ord l[k + 1] l[k] ≠ 0) : compG ord l (k + 2) = compG ord l (k + 1) ++ [l[k + 1]] := by
  rw [compG_succ h, pushG_diff (compG_last L (by omega))]
  rw [L.anti]; omega
theorem compG_len (l : List α) (k : Nat) (h : k ≤ l.length) : (compG ord l k).length ≤ k := by
  induction k with
  | zero => simp [compG_zero]
  | succ k ih =>
    have := ih (by omega)
    rw [compG_succ (by omega), pushG]
    split
    · omega
    · simp; omega
theorem compG_all (L : Lin ord) {l : List α} {k : Nat} (h : k ≤ l.length) (hd : ∀ j (hj : j + 1 < k), ord (l[j + 1]'(by omega)) (l[j]'(by omega)) ≠ 0) : compG ord l k = l.take k := by
  induction k with
  | zero => simp [compG_zero]
  | succ k ih =>
    have e : l.take (k + 1) = l.take k ++ [l[k]] := by
      rw [List.take_add_one, List.getElem?_eq_getElem (by omega)]; rfl
    cases k with
    | zero => rw [compG_one (by omega), e]; simp
    | succ k =>
      rw [compG_diff L (by omega) (hd k (by omega)), ih (by omega) (fun j hj => hd j (by omega)), e]
theorem compG_dist (L : Lin ord) {l : List α} (hl : l.Pairwise fun a b => ord a b ≤ 0) : DistG ord l (compG ord l l.length) := by
  rw [compG, List.take_length]; exact fold_pushG L hl

/-- taking out the smallest again and again: what is behind 'last' and not yet out -/
structure SelG (ord : α → α → Int) (cs out : List α) : Prop where
  asc : AscG ord out
  sub : ∀ c ∈ out, c ∈ cs
  low : ∀ c ∈ cs, c ∈ out ∨ ∀ o ∈ out, ord o c < 0
theorem SelG.nil (cs : List α) : SelG ord cs [] := ⟨List.Pairwise.nil, by simp, fun c hc => .inr (by simp)⟩
theorem SelG.next (L : Lin ord) {cs out : List α} {b : α} (h : SelG ord cs out) (hb : b ∈ cs) (h1 : ∀ o ∈ out, ord o b < 0) (h2 : ∀ c ∈ cs, (∀ o ∈ out, ord o c < 0) → ord b c ≤ 0) : SelG ord cs (out ++ [b]) := by
  refine ⟨List.pairwise_append.2 ⟨h.asc, by simp, fun a ha c hc => ?_⟩, ?_, ?_⟩
  · simp only [List.mem_singleton] at hc; subst hc; exact h1 a ha
  · intro c hc
    simp only [List.mem_append, List.mem_singleton] at hc
    rcases hc with hc | rfl
    · exact h.sub c hc
    · exact hb
  · intro c hc
    rcases h.low c hc with g | g
    · exact .inl (by simp [g])
    · by_cases e : ord b c = 0
      · exact .inl (by simp [L.zero _ _ e])
      · refine .inr fun o ho => ?_
        simp only [List.mem_append, List.mem_singleton] at ho
        rcases ho with ho | rfl
        · exact g o ho
        · have := h2 c hc g; omega
theorem SelG.done {cs out : List α} (h : SelG ord cs out) (hn : ∀ c ∈ cs, ¬ ∀ o ∈ out, ord o c < 0) : DistG ord cs out :=
  ⟨h.asc, fun c => ⟨h.sub c, fun hc => (h.low c hc).resolve_right (hn c hc)⟩⟩
/-- the last one of out is enough -/
theorem asc_last (L : Lin ord) {out : List α} {z c : α} (h : AscG ord out) (hz : out.getLast? = some z) : (∀ o ∈ out, ord o c < 0) ↔ ord z c < 0 := by
  rcases List.eq_nil_or_concat out with rfl | ⟨t, y, rfl⟩
  · cases hz
  · have : y = z := by simpa using hz
    subst this
    constructor
    · intro h1; exact h1 y (by simp)
    · intro h1 o ho
      simp only [List.concat_eq_append, List.mem_append, List.mem_singleton] at ho
      rcases ho with ho | rfl
      · have h2 : ord o y < 0 := by
          have := h
          unfold AscG at this
          rw [List.concat_eq_append] at this
          exact (List.pairwise_append.1 this).2.2 o ho y (by simp)
        exact L.trans _ _ _ h2 h1
      · exact h1
theorem nodup_len {r : List α} : ∀ {cs : List α}, r.Nodup → (∀ c ∈ r, c ∈ cs) → r.length ≤ cs.length := by
  induction r with
  | nil => intro cs _ _; simp
  | cons a r ih =>
    intro cs hn hs
    obtain ⟨s, t, rfl⟩ := List.append_of_mem (hs a (by simp))
    have h1 := List.nodup_cons.1 hn
    have := ih (cs := s ++ t) h1.2 (fun c hc => by
      have h2 := hs c (by simp [hc])
      simp only [List.mem_append, List.mem_cons] at h2 ⊢
      rcases h2 with h2 | rfl | h2
      · exact .inl h2
      · exact absurd hc h1.1
      · exact .inr h2)
    simp only [List.length_append, List.length_cons] at this ⊢
    omega
theorem SelG.len (L : Lin ord) {cs out : List α} (h : SelG ord cs out) : out.length ≤ cs.length :=
  nodup_len (ascG_nodup L h.asc) h.sub
end
end Go.Proofs.YtoamapdfcdefjaaGreat
namespace Go.Proofs.YtoamapdfcdefjaaGreat
set_option linter.unusedVariables false

def ordI (a b : Int) : Int := if a < b then -1 else if b < a then 1 else 0
def ordL : List Int → List Int → Int
  | [], [] => 0
  | [], _ :: _ => -1
  | _ :: _, [] => 1
  | a :: r, b :: s => if ordI a b = 0 then ordL r s else ordI a b
def ordC (a b : C) : Int := if ordI a.arch b.arch ≠ 0 then ordI a.arch b.arch else if ordI a.nr b.nr ≠ 0 then ordI a.nr b.nr else ordL a.args b.args

theorem ordI_anti (a b : Int) : ordI a b = - ordI b a := by unfold ordI; split <;> split <;> (try split) <;> omega
theorem ordI_zero {a b : Int} (h : ordI a b = 0) : a = b := by unfold ordI at h; split at h <;> (try split at h) <;> omega
theorem ordI_self (a : Int) : ordI a a = 0 := by unfold ordI; simp
theorem ordI_lt {a b : Int} : ordI a b < 0 ↔ a < b := by unfold ordI; split <;> (try split) <;> omega
theorem ordI_bd (a b : Int) : ordI a b = -1 ∨ ordI a b = 0 ∨ ordI a b = 1 := by unfold ordI; split <;> (try split) <;> omega
theorem ordL_self (l : List Int) : ordL l l = 0 := by
  induction l with
  | nil => rfl
  | cons a r ih => simp [ordL, ordI_self, ih]
theorem ordL_zero {l m : List Int} (h : ordL l m = 0) : l = m := by
  induction l generalizing m with
  | nil => cases m with
    | nil => rfl
    | cons => simp [ordL] at h
  | cons a r ih => cases m with
    | nil => simp [ordL] at h
    | cons b s =>
      unfold ordL at h
      split at h
      · rename_i h0; rw [ordI_zero h0, ih h]
      · exact absurd h (by assumption)
theorem ordL_anti (l m : List Int) : ordL l m = - ordL m l := by
  induction l generalizing m with
  | nil => cases m <;> simp [ordL]
  | cons a r ih => cases m with
    | nil => simp [ordL]
    | cons b s =>
      unfold ordL
      have := ordI_anti a b
      by_cases h : ordI a b = 0
      · rw [if_pos h, if_pos (by omega), ih s]
      · rw [if_neg h, if_neg (by omega)]; exact this
theorem ordL_trans {l m n : List Int} (h : ordL l m < 0) (h' : ordL m n < 0) : ordL l n < 0 := by
  induction l generalizing m n with
  | nil => cases m with
    | nil => simp [ordL] at h
    | cons b s => cases n with
      | nil => simp [ordL] at h'
      | cons => simp [ordL]
  | cons a r ih => cases m with
    | nil => simp [ordL] at h
    | cons b s => cases n with
      | nil => simp [ordL] at h'
      | cons c t =>
        unfold ordL at h h' ⊢
        by_cases e1 : ordI a b = 0
        · rw [if_pos e1] at h
          obtain rfl := ordI_zero e1
          by_cases e2 : ordI a c = 0
          · rw [if_pos e2] at h' ⊢; exact ih h h'
          · rw [if_neg e2] at h' ⊢; exact h'
        · rw [if_neg e1] at h
          by_cases e2 : ordI b c = 0
          · obtain rfl := ordI_zero e2
            rw [if_neg e1]; exact h
          · rw [if_neg e2] at h'
            have h1 := ordI_lt.1 h
            have h2 := ordI_lt.1 h'
            have h3 : ordI a c < 0 := ordI_lt.2 (by omega)
            rw [if_neg (by omega)]; exact h3
theorem ordL_bd (l m : List Int) : ordL l m = -1 ∨ ordL l m = 0 ∨ ordL l m = 1 := by
  induction l generalizing m with
  | nil => cases m <;> simp [ordL]
  | cons a r ih => cases m with
    | nil => simp [ordL]
    | cons b s =>
      unfold ordL
      split
      · exact ih s
      · exact ordI_bd a b

theorem ordC_self (a : C) : ordC a a = 0 := by simp [ordC, ordI_self, ordL_self]
theorem ordC_zero {a b : C} (h : ordC a b = 0) : a = b := by
  unfold ordC at h
  split at h
  · contradiction
  · rename_i h1
    split at h
    · contradiction
    · rename_i h2
      have e1 := ordI_zero (by omega : ordI a.arch b.arch = 0)
      have e2 := ordI_zero (by omega : ordI a.nr b.nr = 0)
      have e3 := ordL_zero h
      cases a; cases b; simp_all
theorem ordC_anti (a b : C) : ordC a b = - ordC b a := by
  unfold ordC
  have h1 := ordI_anti a.arch b.arch
  have h2 := ordI_anti a.nr b.nr
  have h3 := ordL_anti a.args b.args
  repeat' split
  all_goals omega
theorem ordC_trans {a b c : C} (h : ordC a b < 0) (h' : ordC b c < 0) : ordC a c < 0 := by
  unfold ordC at h h' ⊢
  have i1 := @ordI_lt a.arch b.arch
  have i2 := @ordI_lt b.arch c.arch
  have i3 := @ordI_lt a.arch c.arch
  have j1 := @ordI_lt a.nr b.nr
  have j2 := @ordI_lt b.nr c.nr
  have j3 := @ordI_lt a.nr c.nr
  have z1 := @ordI_zero a.arch b.arch
  have z2 := @ordI_zero b.arch c.arch
  have z3 := @ordI_zero a.arch c.arch
  have y1 := @ordI_zero a.nr b.nr
  have y2 := @ordI_zero b.nr c.nr
  have y3 := @ordI_zero a.nr c.nr
  have t := @ordL_trans a.args b.args c.args
  have s1 := ordI_self a.arch
  by_cases hA : ordI a.arch b.arch = 0
  · have eA := z1 hA
    rw [eA] at *
    by_cases hB : ordI b.arch c.arch = 0
    · rw [if_neg (by omega)] at h h' ⊢
      by_cases hC : ordI a.nr b.nr = 0
      · have eC := y1 hC
        rw [eC] at *
        by_cases hD : ordI b.nr c.nr = 0
        · rw [if_neg (by omega)] at h h' ⊢
          exact t h h'
        · rw [if_pos hD] at h' ⊢; exact h'
      · rw [if_pos hC] at h
        have k1 := j1.1 h
        by_cases hD : ordI b.nr c.nr = 0
        · have eD := y2 hD
          rw [← eD, if_pos hC]; exact h
        · rw [if_pos hD] at h'
          have k2 := j2.1 h'
          have k3 := j3.2 (by omega)
          rw [if_pos (by omega)]; exact k3
    · rw [if_pos hB] at h' ⊢; exact h'
  · rw [if_pos hA] at h
    have k1 := i1.1 h
    by_cases hB : ordI b.arch c.arch = 0
    · have eB := z2 hB
      rw [← eB, if_pos hA]; exact h
    · rw [if_pos hB] at h'
      have k2 := i2.1 h'
      have k3 := i3.2 (by omega)
      rw [if_pos (by omega)]; exact k3
theorem ordC_bd (a b : C) : ordC a b = -1 ∨ ordC a b = 0 ∨ ordC a b = 1 := by
  unfold ordC
  split
  · exact ordI_bd _ _
  · split
    · exact ordI_bd _ _
    · exact ordL_bd _ _
theorem ordC_le_lt {a b c : C} (h : ordC a b ≤ 0) (h' : ordC b c < 0) : ordC a c < 0 := by
  by_cases e : ordC a b = 0
  · rw [ordC_zero e]; exact h'
  · exact ordC_trans (by omega) h'
theorem ordC_lt_le {a b c : C} (h : ordC a b < 0) (h' : ordC b c ≤ 0) : ordC a c < 0 := by
  by_cases e : ordC b c = 0
  · rw [← ordC_zero e]; exact h
  · exact ordC_trans h (by omega)
theorem ordC_le_trans {a b c : C} (h : ordC a b ≤ 0) (h' : ordC b c ≤ 0) : ordC a c ≤ 0 := by
  by_cases e : ordC a b = 0
  · rw [ordC_zero e]; exact h'
  · have := ordC_lt_le (a := a) (by omega) h'; omega

/-- each once, ascending -/
def Asc (r : List C) : Prop := r.Pairwise fun a b => ordC a b < 0
/-- the different ones of cs, ascending -/
def IsDist (cs r : List C) : Prop := Asc r ∧ ∀ c, c ∈ r ↔ c ∈ cs

theorem asc_uniq {r s : List C} (h : Asc r) (h' : Asc s) (e : ∀ c, c ∈ r ↔ c ∈ s) : r = s := by
  induction r generalizing s with
  | nil => cases s with
    | nil => rfl
    | cons b s => exact absurd ((e b).2 (by simp)) (by simp)
  | cons a r ih => cases s with
    | nil => exact absurd ((e a).1 (by simp)) (by simp)
    | cons b s =>
      have ha := List.pairwise_cons.1 h
      have hb := List.pairwise_cons.1 h'
      have eab : a = b := by
        have m1 := (e a).1 (by simp)
        have m2 := (e b).2 (by simp)
        simp only [List.mem_cons] at m1 m2
        rcases m1 with m1 | m1
        · exact m1
        · rcases m2 with m2 | m2
          · exact m2.symm
          · have g1 := hb.1 a m1
            have g2 := ha.1 b m2
            have := ordC_anti a b
            omega
      subst eab
      congr 1
      refine ih ha.2 hb.2 fun c => ?_
      constructor
      · intro hc
        have := (e c).1 (by simp [hc])
        simp only [List.mem_cons] at this
        rcases this with rfl | this
        · have := ha.1 c hc; rw [ordC_self] at this; omega
        · exact this
      · intro hc
        have := (e c).2 (by simp [hc])
        simp only [List.mem_cons] at this
        rcases this with rfl | this
        · have := hb.1 c hc; rw [ordC_self] at this; omega
        · exact this
theorem dist_uniq {cs r s : List C} (h : IsDist cs r) (h' : IsDist cs s) : r = s := asc_uniq h.1 h'.1 fun c => (h.2 c).trans (h'.2 c).symm

/-- c behind out, unless it stands there already -/
def pushD (out : List C) (c : C) : List C := if out = [] ∨ ordC (out.getLastD C.zero) c ≠ 0 then out ++ [c] else out
theorem pushD_asc {out : List C} {c : C} (h : Asc out) (hc : ∀ o ∈ out, ordC o c ≤ 0) : Asc (pushD out c) ∧ (∀ d, d ∈ pushD out c ↔ d ∈ out ∨ d = c) := by
  rcases List.eq_nil_or_concat out with rfl | ⟨t, z, rfl⟩
  · simp [pushD, Asc]
  · have hz : (t.concat z).getLastD C.zero = z := by simp
    unfold pushD
    rw [hz]
    by_cases e : ordC z c = 0
    · obtain rfl := ordC_zero e
      rw [if_neg (by simp [e])]
      refine ⟨h, fun d => ⟨fun hd => .inl hd, fun hd => ?_⟩⟩
      rcases hd with hd | rfl
      · exact hd
      · simp
    · rw [if_pos (.inr e)]
      refine ⟨?_, fun d => by simp [or_assoc]⟩
      refine List.pairwise_append.2 ⟨h, by simp, fun a ha b hb => ?_⟩
      simp only [List.mem_singleton] at hb
      subst hb
      have hzc : ordC z b < 0 := by have := hc z (by simp); omega
      simp only [List.concat_eq_append, List.mem_append, List.mem_singleton] at ha
      rcases ha with ha | rfl
      · have h2 : ordC a z < 0 := by
          have := h
          unfold Asc at this
          rw [List.concat_eq_append] at this
          exact (List.pairwise_append.1 this).2.2 a ha z (by simp)
        exact ordC_trans h2 hzc
      · exact hzc

/-- out so far, what is left of x and y: all of it is no less -/
structure Mid (cs out x y : List C) : Prop where
  ao : Asc out
  ax : Asc x
  ay : Asc y
  ox : ∀ a ∈ out, ∀ b ∈ x, ordC a b ≤ 0
  oy : ∀ a ∈ out, ∀ b ∈ y, ordC a b ≤ 0
  mem : ∀ c, c ∈ cs ↔ c ∈ out ∨ c ∈ x ∨ c ∈ y
theorem Mid.left {cs out x y : List C} {a : C} (h : Mid cs out (a :: x) y) (ha : ∀ b ∈ y, ordC a b ≤ 0) : Mid cs (pushD out a) x y := by
  obtain ⟨p1, p2⟩ := pushD_asc h.ao (fun o ho => h.ox o ho a (by simp))
  have hx := List.pairwise_cons.1 h.ax
  refine ⟨p1, hx.2, h.ay, ?_, ?_, ?_⟩
  · intro c hc b hb
    rcases (p2 c).1 hc with hc | rfl
    · exact h.ox c hc b (by simp [hb])
    · have := hx.1 b hb; omega
  · intro c hc b hb
    rcases (p2 c).1 hc with hc | rfl
    · exact h.oy c hc b hb
    · exact ha b hb
  · intro c
    rw [h.mem c, p2 c]
    simp only [List.mem_cons]
    constructor
    · rintro (g | (g | g) | g)
      · exact .inl (.inl g)
      · exact .inl (.inr g)
      · exact .inr (.inl g)
      · exact .inr (.inr g)
    · rintro ((g | g) | g | g)
      · exact .inl g
      · exact .inr (.inl (.inl g))
      · exact .inr (.inl (.inr g))
      · exact .inr (.inr g)
theorem Mid.swap {cs out x y : List C} (h : Mid cs out x y) : Mid cs out y x :=
  ⟨h.ao, h.ay, h.ax, h.oy, h.ox, fun c => by rw [h.mem c]; constructor <;> (rintro (g | g | g) <;> simp [g])⟩
theorem Mid.done {cs out : List C} (h : Mid cs out [] []) : IsDist cs out := ⟨h.ao, fun c => by rw [h.mem c]; simp⟩
/-- two heads: the smaller one goes on -/
theorem asc_head {y : List C} {a b : C} (hy : Asc (b :: y)) (h : ordC a b ≤ 0) : ∀ c ∈ b :: y, ordC a c ≤ 0 := by
  intro c hc
  simp only [List.mem_cons] at hc
  rcases hc with rfl | hc
  · exact h
  · have := (List.pairwise_cons.1 hy).1 c hc
    have := ordC_le_lt h this; omega
theorem Mid.start {u v x y : List C} (hx : IsDist u x) (hy : IsDist v y) : Mid (u ++ v) [] x y :=
  ⟨List.Pairwise.nil, hx.1, hy.1, by simp, by simp, fun c => by simp [hx.2 c, hy.2 c]⟩

/-- of a list in order, each once -/
theorem fold_push {l : List C} (hl : l.Pairwise fun a b => ordC a b ≤ 0) : IsDist l (l.foldl pushD []) := by
  have key : ∀ (l out cs : List C), (l.Pairwise fun a b => ordC a b ≤ 0) → Asc out → (∀ a ∈ out, ∀ b ∈ l, ordC a b ≤ 0) → (∀ c, c ∈ cs ↔ c ∈ out ∨ c ∈ l) → IsDist cs (l.foldl pushD out) := by
    intro l
    induction l with
    | nil => intro out cs _ h2 _ h4; exact ⟨h2, fun c => by rw [h4 c]; simp⟩
    | cons a l ih =>
      intro out cs h1 h2 h3 h4
      have g := List.pairwise_cons.1 h1
      obtain ⟨p1, p2⟩ := pushD_asc h2 (fun o ho => h3 o ho a (by simp))
      refine ih (pushD out a) cs g.2 p1 ?_ ?_
      · intro c hc b hb
        rcases (p2 c).1 hc with hc | rfl
        · exact h3 c hc b (by simp [hb])
        · exact g.1 b hb
      · intro c
        rw [h4 c, p2 c]
        simp only [List.mem_cons]
        constructor
        · rintro (q | q | q)
          · exact .inl (.inl q)
          · exact .inl (.inr q)
          · exact .inr q
        · rintro ((q | q) | q)
          · exact .inl q
          · exact .inr (.inl q)
          · exact .inr (.inr q)
  exact key l [] l hl List.Pairwise.nil (by simp) (by simp)
theorem dist_perm {cs l r : List C} (h : IsDist l r) (hp : ∀ c, c ∈ l ↔ c ∈ cs) : IsDist cs r := ⟨h.1, fun c => (h.2 c).trans (hp c)⟩
end Go.Proofs.YtoamapdfcdefjaaGreat
namespace Go.Proofs.YtoamapdfcdefjaaGreat
set_option linter.unusedVariables false

/-- the bits in which one of the first n differs from the first one -/
def difN (vs : List Nat) : Nat → Nat
  | 0 => 0
  | n + 1 => difN vs n ||| (vs.getD n 0 ^^^ vs.getD 0 0)
/-- how many of the first n have bit k -/
def onesN (vs : List Nat) (k : Nat) : Nat → Nat
  | 0 => 0
  | n + 1 => onesN vs k n + (if (vs.getD n 0).testBit k = true then 1 else 0)
def minN (vs : List Nat) : Nat → Nat
  | 0 => vs.getD 0 0
  | n + 1 => if vs.getD n 0 < minN vs n then vs.getD n 0 else minN vs n
def maxN (vs : List Nat) : Nat → Nat
  | 0 => vs.getD 0 0
  | n + 1 => if maxN vs n < vs.getD n 0 then vs.getD n 0 else maxN vs n

def All64 (vs : List Nat) : Prop := ∀ i, vs.getD i 0 < 18446744073709551616

def covA (vs : List Nat) : Nat := inv (difN vs vs.length)
def covB (vs : List Nat) : Nat := vs.getD 0 0 &&& inv (difN vs vs.length)

theorem difN_lt {vs : List Nat} (h : All64 vs) : ∀ n, difN vs n < 18446744073709551616
  | 0 => (by decide : 0 < 18446744073709551616)
  | n + 1 => or_lt (difN_lt h n) (xor_lt (h n) (h 0))
theorem difN_bit (vs : List Nat) (k : Nat) : ∀ n, (difN vs n).testBit k = true ↔ ∃ j, j < n ∧ (vs.getD j 0).testBit k ≠ (vs.getD 0 0).testBit k
  | 0 => by simp [difN]
  | n + 1 => by
    simp only [difN, Nat.testBit_or, Nat.testBit_xor, Bool.or_eq_true, difN_bit vs k n]
    constructor
    · rintro (⟨j, h1, h2⟩ | h)
      · exact ⟨j, by omega, h2⟩
      · exact ⟨n, by omega, by revert h; cases (vs.getD n 0).testBit k <;> cases (vs.getD 0 0).testBit k <;> simp⟩
    · rintro ⟨j, h1, h2⟩
      by_cases e : j = n
      · subst e; right; revert h2; cases (vs.getD j 0).testBit k <;> cases (vs.getD 0 0).testBit k <;> simp
      · exact .inl ⟨j, by omega, h2⟩

theorem onesN_le (vs : List Nat) (k : Nat) : ∀ n, onesN vs k n ≤ n
  | 0 => Nat.le_refl _
  | n + 1 => by have := onesN_le vs k n; unfold onesN; split <;> omega
theorem onesN_zero (vs : List Nat) (k : Nat) : ∀ n, onesN vs k n = 0 ↔ ∀ j, j < n → (vs.getD j 0).testBit k = false
  | 0 => by simp [onesN]
  | n + 1 => by
    have := onesN_zero vs k n
    unfold onesN
    constructor
    · intro h j hj
      by_cases e : j = n
      · subst e
        by_cases q : (vs.getD j 0).testBit k = true
        · rw [if_pos q] at h; omega
        · exact Bool.eq_false_iff.2 q
      · exact this.1 (by omega) j (by omega)
    · intro h
      rw [this.2 (fun j hj => h j (by omega)), if_neg (by rw [h n (by omega)]; decide)]
theorem onesN_all (vs : List Nat) (k : Nat) : ∀ n, onesN vs k n = n ↔ ∀ j, j < n → (vs.getD j 0).testBit k = true
  | 0 => by simp [onesN]
  | n + 1 => by
    have := onesN_all vs k n
    have hl := onesN_le vs k n
    unfold onesN
    constructor
    · intro h j hj
      by_cases q : (vs.getD n 0).testBit k = true
      · rw [if_pos q] at h
        by_cases e : j = n
        · subst e; exact q
        · exact this.1 (by omega) j (by omega)
      · rw [if_neg q] at h; omega
    · intro h
      rw [this.2 (fun j hj => h j (by omega)), if_pos (h n (by omega))]

theorem covA_bit {vs : List Nat} (h : All64 vs) (hne : 0 < vs.length) {k : Nat} (hk : k < 64) : (covA vs).testBit k = true ↔ (onesN vs k vs.length = 0 ∨ onesN vs k vs.length = vs.length) := by
  unfold covA
  rw [bit_inv (difN_lt h _), decide_eq_true hk, Bool.true_and, Bool.not_eq_true', ← Bool.not_eq_true, difN_bit, onesN_zero, onesN_all]
  constructor
  · intro q
    cases e : (vs.getD 0 0).testBit k with
    | false => exact .inl fun j hj => Decidable.byContradiction fun r => q ⟨j, hj, by rw [e]; exact r⟩
    | true => exact .inr fun j hj => Decidable.byContradiction fun r => q ⟨j, hj, by rw [e]; exact r⟩
  · rintro (q | q) ⟨j, hj, r⟩
    · exact r (by rw [q j hj, q 0 hne])
    · exact r (by rw [q j hj, q 0 hne])
theorem covB_bit {vs : List Nat} (h : All64 vs) (hne : 0 < vs.length) {k : Nat} (hk : k < 64) : (covB vs).testBit k = true ↔ onesN vs k vs.length = vs.length := by
  have hA := covA_bit h hne hk
  unfold covB
  unfold covA at hA
  rw [Nat.testBit_and, Bool.and_eq_true, hA, onesN_zero, onesN_all]
  constructor
  · rintro ⟨h1, h2 | h2⟩
    · rw [h2 0 hne] at h1; exact absurd h1 (by decide)
    · exact h2
  · intro q
    exact ⟨q 0 hne, .inr q⟩
theorem covA_lt (vs : List Nat) : covA vs < 18446744073709551616 := inv_lt _
theorem covB_lt {vs : List Nat} (h : All64 vs) : covB vs < 18446744073709551616 := and_lt (h 0)
theorem cov_valid (vs : List Nat) : covA vs ||| covB vs = covA vs := by
  unfold covA covB
  apply Nat.eq_of_testBit_eq
  intro i
  rw [Nat.testBit_or, Nat.testBit_and]
  cases (vs.getD 0 0).testBit i <;> cases (inv (difN vs vs.length)).testBit i <;> rfl
/-- every value has the agreed bits -/
theorem cov_mask {vs : List Nat} (h : All64 vs) {j : Nat} (hj : j < vs.length) : vs.getD j 0 &&& covA vs = covB vs := by
  unfold covA covB
  apply Nat.eq_of_testBit_eq
  intro i
  rw [Nat.testBit_and, Nat.testBit_and]
  cases e : (inv (difN vs vs.length)).testBit i with
  | false => simp
  | true =>
    rw [bit_inv (difN_lt h _), Bool.and_eq_true, Bool.not_eq_true', ← Bool.not_eq_true, difN_bit] at e
    have : (vs.getD j 0).testBit i = (vs.getD 0 0).testBit i := Decidable.byContradiction fun r => e.2 ⟨j, hj, r⟩
    rw [this]

/-- the bits from k up -/
def topN (x k : Nat) : Nat := x / 2 ^ k * 2 ^ k
theorem topN_0 (x : Nat) : topN x 0 = x := by simp [topN]
theorem topN_64 {x : Nat} (h : x < 18446744073709551616) : topN x 64 = 0 := by
  unfold topN; rw [Nat.div_eq_of_lt (by exact h), Nat.zero_mul]
theorem topN_le (x k : Nat) : topN x k ≤ x := Nat.div_mul_le_self x _
theorem topN_yes {x k : Nat} (h : x.testBit k = true) : topN x (k + 1) ||| 2 ^ k = topN x k := by
  apply Nat.eq_of_testBit_eq
  intro i
  unfold topN
  rw [Nat.testBit_or, bit_shift, bit_shift, Nat.testBit_two_pow]
  by_cases e : i = k
  · subst e; simp [h]
  · by_cases q : k ≤ i
    · simp [q, show k + 1 ≤ i by omega, show ¬ k = i by omega]
    · simp [q, show ¬ k + 1 ≤ i by omega, show ¬ k = i by omega]
theorem topN_no {x k : Nat} (h : x.testBit k = false) : topN x (k + 1) = topN x k := by
  apply Nat.eq_of_testBit_eq
  intro i
  unfold topN
  rw [bit_shift, bit_shift]
  by_cases e : i = k
  · subst e; simp [h]
  · by_cases q : k ≤ i
    · simp [q, show k + 1 ≤ i by omega]
    · simp [q, show ¬ k + 1 ≤ i by omega]

theorem minN_lt {vs : List Nat} (h : All64 vs) : ∀ n, minN vs n < 18446744073709551616
  | 0 => h 0
  | n + 1 => by have := minN_lt h n; have := h n; unfold minN; split <;> omega
theorem maxN_lt {vs : List Nat} (h : All64 vs) : ∀ n, maxN vs n < 18446744073709551616
  | 0 => h 0
  | n + 1 => by have := maxN_lt h n; have := h n; unfold maxN; split <;> omega
theorem minN_1 (vs : List Nat) : minN vs 1 = vs.getD 0 0 := by simp [minN]
theorem maxN_1 (vs : List Nat) : maxN vs 1 = vs.getD 0 0 := by simp [maxN]
theorem minN_le (vs : List Nat) : ∀ n j, j < n → minN vs n ≤ vs.getD j 0
  | n + 1, j, hj => by
    unfold minN
    by_cases e : j = n
    · subst e; split <;> omega
    · have := minN_le vs n j (by omega); split <;> omega
theorem maxN_ge (vs : List Nat) : ∀ n j, j < n → vs.getD j 0 ≤ maxN vs n
  | n + 1, j, hj => by
    unfold maxN
    by_cases e : j = n
    · subst e; split <;> omega
    · have := maxN_ge vs n j (by omega); split <;> omega
theorem min_max (vs : List Nat) : ∀ n, minN vs n ≤ maxN vs n
  | 0 => Nat.le_refl _
  | n + 1 => by
    have := min_max vs n
    unfold minN maxN
    split <;> split <;> omega

/-- how many of the lowest n bits are set -/
def popN (x : Nat) : Nat → Nat
  | 0 => 0
  | n + 1 => popN x n + (if x.testBit n = true then 1 else 0)
theorem popN_le (x : Nat) : ∀ n, popN x n ≤ n
  | 0 => Nat.le_refl _
  | n + 1 => by have := popN_le x n; unfold popN; split <;> omega
theorem popN_half (x : Nat) : ∀ n, popN x (n + 1) = x % 2 + popN (x / 2) n
  | 0 => by
    simp only [popN, Nat.testBit_zero, decide_eq_true_eq]
    split <;> omega
  | n + 1 => by
    have h := popN_half x n
    unfold popN
    rw [h, Nat.testBit_succ]
    omega
theorem popAux_eq : ∀ n x, Lib.popAux n x = popN x n
  | 0, x => rfl
  | n + 1, x => by rw [popN_half, Lib.popAux, popAux_eq n (x / 2)]
theorem low_next (z : Nat) : low (z + 1) = low z * 2 + 1 := by
  have h1 := low_succ z
  have h2 := low_succ (z + 1)
  rw [Nat.pow_succ] at h2
  omega

/-- one less than the number of elements of a mask's set -/
def moreK (a : Nat) : Nat := low (popN (inv a) 64)

/-- what covers the values in the form -/
def coverK (vs : List Nat) (form : Int) : K :=
  if vs.length = 0 ∨ ¬ (0 ≤ form ∧ form ≤ 2) then ⟨0, 0, 0⟩
  else if form = 1 ∨ (form = 0 ∧ moreK (covA vs) ≤ maxN vs vs.length - minN vs vs.length) then newMask (covA vs) (covB vs)
  else newRange (minN vs vs.length) (maxN vs vs.length)

theorem coverK_normal {vs : List Nat} (h : All64 vs) (form : Int) : Normal (coverK vs form) := by
  unfold coverK
  split
  · exact .inl rfl
  · split
    · exact newMask_normal (covA_lt _) (cov_valid _)
    · exact newRange_normal (min_max _ _) (maxN_lt h _)
theorem coverK_holds {vs : List Nat} (h : All64 vs) (form : Int) {j : Nat} (hj : j < vs.length) : holdsK (coverK vs form) (vs.getD j 0) = true := by
  unfold coverK
  split
  · rfl
  · split
    · rw [newMask_holds (cov_valid _), holds_mask, cov_mask h hj]; exact beq_self_eq_true _
    · rw [newRange_holds (min_max _ _) (maxN_lt h _) (h j), holds_range]
      rw [decide_eq_true (minN_le vs _ j hj), decide_eq_true (maxN_ge vs _ j hj)]; rfl

/-! counting bits byte by byte -/
def rep (m : Nat) : Nat → Nat
  | 0 => 0
  | n + 1 => m + 256 * rep m n
def g1 (b : Nat) : Nat := (b / 2 &&& 85) + (b &&& 85)
def g2 (b : Nat) : Nat := (b / 4 &&& 51) + (b &&& 51)
def g3 (b : Nat) : Nat := (b / 16 + b) &&& 15
def S1 (n x : Nat) : Nat := (x / 2 &&& rep 85 n) + (x &&& rep 85 n)
def S2 (n x : Nat) : Nat := (x / 4 &&& rep 51 n) + (x &&& rep 51 n)
def S3 (n x : Nat) : Nat := (x / 16 + x) &&& rep 15 n
def dig : Nat → Nat → Nat
  | 0, _ => 0
  | n + 1, x => Lib.popAux 8 (x % 256) + 256 * dig n (x / 256)

theorem rep_succ (m n : Nat) : rep m (n + 1) = m + 256 * rep m n := rfl
theorem and_split (x m q : Nat) (hm : m < 256) : x &&& (m + 256 * q) = (x % 256 &&& m) + 256 * (x / 256 &&& q) := by
  have h1 : (x &&& (m + 256 * q)) % 2 ^ 8 = (x % 2 ^ 8 &&& (m + 256 * q) % 2 ^ 8) := Nat.and_mod_two_pow
  have h2 : (x &&& (m + 256 * q)) / 2 ^ 8 = (x / 2 ^ 8 &&& (m + 256 * q) / 2 ^ 8) := Nat.and_div_two_pow
  have e1 : (m + 256 * q) % 2 ^ 8 = m := by omega
  have e2 : (m + 256 * q) / 2 ^ 8 = q := by omega
  rw [e1] at h1
  rw [e2] at h2
  have e3 : (2 : Nat) ^ 8 = 256 := by decide
  rw [e3] at h1 h2
  rw [← h1, ← h2]
  omega
theorem and_small (x k m : Nat) (hm : m < 2 ^ k) : x &&& m = x % 2 ^ k &&& m := by
  have h1 : (x &&& m) % 2 ^ k = (x % 2 ^ k &&& m % 2 ^ k) := Nat.and_mod_two_pow
  rw [Nat.mod_eq_of_lt hm, Nat.mod_eq_of_lt (Nat.lt_of_le_of_lt Nat.and_le_right hm)] at h1
  exact h1

theorem S1_step {b y : Nat} (n : Nat) (hb : b < 256) : S1 (n + 1) (b + 256 * y) = g1 b + 256 * S1 n y := by
  unfold S1 g1
  rw [rep_succ]
  rw [and_split _ 85 _ (by decide), and_split _ 85 _ (by decide)]
  have e1 : (b + 256 * y) / 2 / 256 = y / 2 := by omega
  have e2 : (b + 256 * y) / 256 = y := by omega
  have e3 : (b + 256 * y) % 256 = b := by omega
  have e4 : (b + 256 * y) / 2 % 256 &&& 85 = b / 2 &&& 85 := by
    rw [and_small _ 7 85 (by decide), and_small (b / 2) 7 85 (by decide)]
    congr 1; omega
  rw [e1, e2, e3, e4]
  omega
theorem S2_step {b y : Nat} (n : Nat) (hb : b < 256) : S2 (n + 1) (b + 256 * y) = g2 b + 256 * S2 n y := by
  unfold S2 g2
  rw [rep_succ]
  rw [and_split _ 51 _ (by decide), and_split _ 51 _ (by decide)]
  have e1 : (b + 256 * y) / 4 / 256 = y / 4 := by omega
  have e2 : (b + 256 * y) / 256 = y := by omega
  have e3 : (b + 256 * y) % 256 = b := by omega
  have e4 : (b + 256 * y) / 4 % 256 &&& 51 = b / 4 &&& 51 := by
    rw [and_small _ 6 51 (by decide), and_small (b / 4) 6 51 (by decide)]
    congr 1; omega
  rw [e1, e2, e3, e4]
  omega
theorem S3_step {b y : Nat} (n : Nat) (hb : b ≤ 68) (hy : y % 16 ≤ 4) : S3 (n + 1) (b + 256 * y) = g3 b + 256 * S3 n y := by
  unfold S3 g3
  rw [rep_succ]
  rw [and_split _ 15 _ (by decide)]
  have e1 : ((b + 256 * y) / 16 + (b + 256 * y)) / 256 = y / 16 + y := by omega
  have e4 : ((b + 256 * y) / 16 + (b + 256 * y)) % 256 &&& 15 = (b / 16 + b) &&& 15 := by
    rw [and_small _ 4 15 (by decide), and_small (b / 16 + b) 4 15 (by decide)]
    congr 1; omega
  rw [e1, e4]
theorem g_all : ∀ b : Fin 256, g1 b.val < 256 ∧ g2 (g1 b.val) ≤ 68 ∧ g2 (g1 b.val) % 16 ≤ 4 ∧ g3 (g2 (g1 b.val)) = Lib.popAux 8 b.val := by decide +kernel
theorem swar : ∀ n x, x < 256 ^ n → S3 n (S2 n (S1 n x)) = dig n x ∧ S2 n (S1 n x) % 16 ≤ 4
  | 0, x, h => by simp [S1, S2, S3, dig, rep]
  | n + 1, x, h => by
    obtain ⟨i1, i2⟩ := swar n (x / 256) (by rw [Nat.pow_succ] at h; omega)
    obtain ⟨h1, h2, h3, h4⟩ := g_all ⟨x % 256, by omega⟩
    simp only at h1 h2 h3 h4
    have e : x = x % 256 + 256 * (x / 256) := by omega
    have e1 : S1 (n + 1) x = g1 (x % 256) + 256 * S1 n (x / 256) := by
      rw [← S1_step n (by omega), ← e]
    rw [e1, S2_step n h1, S3_step n h2 i2, i1, h4]
    exact ⟨rfl, by omega⟩
theorem pop_byte (n x : Nat) : Lib.popAux (n + 8) x = Lib.popAux 8 (x % 256) + Lib.popAux n (x / 256) := by
  show x % 2 + (x / 2 % 2 + (x / 2 / 2 % 2 + (x / 2 / 2 / 2 % 2 + (x / 2 / 2 / 2 / 2 % 2 + (x / 2 / 2 / 2 / 2 / 2 % 2 + (x / 2 / 2 / 2 / 2 / 2 / 2 % 2 + (x / 2 / 2 / 2 / 2 / 2 / 2 / 2 % 2 + Lib.popAux n (x / 2 / 2 / 2 / 2 / 2 / 2 / 2 / 2)))))))) = _
  have e : x / 2 / 2 / 2 / 2 / 2 / 2 / 2 / 2 = x / 256 := by omega
  rw [e]
  simp only [Lib.popAux]
  omega
theorem pop8_le (x : Nat) : Lib.popAux 8 x ≤ 8 := by rw [popAux_eq]; exact popN_le _ _
/-- the last three steps add the bytes up -/
theorem swar_sum {x y : Nat} (hx : x < 18446744073709551616) (hy : y = dig 8 x) :
    y + y / 256 < 18446744073709551616 ∧ (y + y / 256) + (y + y / 256) / 65536 < 18446744073709551616 ∧
    ((y + y / 256) + (y + y / 256) / 65536) + ((y + y / 256) + (y + y / 256) / 65536) / 4294967296 < 9223372036854775808 ∧
    (((y + y / 256) + (y + y / 256) / 65536) + ((y + y / 256) + (y + y / 256) / 65536) / 4294967296) % 128 = popN x 64 := by
  have e : popN x 64 = Lib.popAux 64 x := (popAux_eq 64 x).symm
  rw [e, pop_byte 56, pop_byte 48, pop_byte 40, pop_byte 32, pop_byte 24, pop_byte 16, pop_byte 8]
  have e8 : x / 256 / 256 / 256 / 256 / 256 / 256 / 256 = x / 256 / 256 / 256 / 256 / 256 / 256 / 256 % 256 := by omega
  rw [e8]
  clear e8
  simp only [dig] at hy
  have p0 := pop8_le (x % 256)
  have p1 := pop8_le (x / 256 % 256)
  have p2 := pop8_le (x / 256 / 256 % 256)
  have p3 := pop8_le (x / 256 / 256 / 256 % 256)
  have p4 := pop8_le (x / 256 / 256 / 256 / 256 % 256)
  have p5 := pop8_le (x / 256 / 256 / 256 / 256 / 256 % 256)
  have p6 := pop8_le (x / 256 / 256 / 256 / 256 / 256 / 256 % 256)
  have p7 := pop8_le (x / 256 / 256 / 256 / 256 / 256 / 256 / 256 % 256)
  generalize Lib.popAux 8 (x % 256) = c0 at *
  generalize Lib.popAux 8 (x / 256 % 256) = c1 at *
  generalize Lib.popAux 8 (x / 256 / 256 % 256) = c2 at *
  generalize Lib.popAux 8 (x / 256 / 256 / 256 % 256) = c3 at *
  generalize Lib.popAux 8 (x / 256 / 256 / 256 / 256 % 256) = c4 at *
  generalize Lib.popAux 8 (x / 256 / 256 / 256 / 256 / 256 % 256) = c5 at *
  generalize Lib.popAux 8 (x / 256 / 256 / 256 / 256 / 256 / 256 % 256) = c6 at *
  generalize Lib.popAux 8 (x / 256 / 256 / 256 / 256 / 256 / 256 / 256 % 256) = c7 at *
  clear hx e
  have a1 : y / 256 = c1 + 256 * (c2 + 256 * (c3 + 256 * (c4 + 256 * (c5 + 256 * (c6 + 256 * c7))))) := by omega
  obtain ⟨y1, hy1⟩ : ∃ y1, y1 = y + y / 256 := ⟨_, rfl⟩
  rw [← hy1]
  have b1 : y1 = (c0 + c1) + 256 * ((c1 + c2) + 256 * ((c2 + c3) + 256 * ((c3 + c4) + 256 * ((c4 + c5) + 256 * ((c5 + c6) + 256 * ((c6 + c7) + 256 * c7)))))) := by omega
  clear hy1 a1 hy
  have a2 : y1 / 65536 = (c2 + c3) + 256 * ((c3 + c4) + 256 * ((c4 + c5) + 256 * ((c5 + c6) + 256 * ((c6 + c7) + 256 * c7)))) := by omega
  obtain ⟨y2, hy2⟩ : ∃ y2, y2 = y1 + y1 / 65536 := ⟨_, rfl⟩
  rw [← hy2]
  have b2 : y2 = (c0 + c1 + c2 + c3) + 256 * ((c1 + c2 + c3 + c4) + 256 * ((c2 + c3 + c4 + c5) + 256 * ((c3 + c4 + c5 + c6) + 256 * ((c4 + c5 + c6 + c7) + 256 * ((c5 + c6 + c7) + 256 * ((c6 + c7) + 256 * c7)))))) := by omega
  have l1 : y1 < 18446744073709551616 := by omega
  clear hy2 a2 b1
  have a3 : y2 / 4294967296 = (c4 + c5 + c6 + c7) + 256 * ((c5 + c6 + c7) + 256 * ((c6 + c7) + 256 * c7)) := by omega
  refine ⟨l1, by omega, by omega, by omega⟩
end Go.Proofs.YtoamapdfcdefjaaGreat
namespace Go.Proofs.YtoamapdfcdefjaaGreat
set_option linter.unusedVariables false

/-! orders -/
theorem linI : Lin ordI := ⟨ordI_self, fun a b h => ordI_zero h, ordI_anti, fun a b c h h' => ordI_lt.2 (by have := ordI_lt.1 h; have := ordI_lt.1 h'; omega)⟩

/-- lists, by the first place where they differ -/
def lexO {α : Type} (ord : α → α → Int) : List α → List α → Int
  | [], [] => 0
  | [], _ :: _ => -1
  | _ :: _, [] => 1
  | a :: r, b :: s => if ord a b = 0 then lexO ord r s else ord a b
theorem lexO_lin {α : Type} {ord : α → α → Int} (L : Lin ord) : Lin (lexO ord) := by
  refine ⟨?_, ?_, ?_, ?_⟩
  · intro l
    induction l with
    | nil => rfl
    | cons a l ih => rw [lexO, if_pos (L.self a)]; exact ih
  · intro l
    induction l with
    | nil => intro m h; cases m with
      | nil => rfl
      | cons b m => simp [lexO] at h
    | cons a l ih => intro m h; cases m with
      | nil => simp [lexO] at h
      | cons b m =>
        rw [lexO] at h
        by_cases e : ord a b = 0
        · rw [if_pos e] at h; rw [L.zero _ _ e, ih m h]
        · rw [if_neg e] at h; exact absurd h e
  · intro l
    induction l with
    | nil => intro m; cases m <;> rfl
    | cons a l ih => intro m; cases m with
      | nil => rfl
      | cons b m =>
        rw [lexO, lexO]
        have h1 := L.anti a b
        by_cases e : ord a b = 0
        · rw [if_pos e, if_pos (by omega)]; exact ih m
        · rw [if_neg e, if_neg (by omega)]; exact h1
  · intro l
    induction l with
    | nil => intro m n h1 h2; cases m with
      | nil => simp [lexO] at h1
      | cons b m => cases n with
        | nil => simp [lexO] at h2
        | cons c n => simp [lexO]
    | cons a l ih => intro m n h1 h2; cases m with
      | nil => simp [lexO] at h1
      | cons b m => cases n with
        | nil => simp [lexO] at h2
        | cons c n =>
          rw [lexO] at h1 h2 ⊢
          by_cases e1 : ord a b = 0
          · rw [if_pos e1] at h1
            have := L.zero _ _ e1
            subst this
            by_cases e2 : ord a c = 0
            · rw [if_pos e2] at h2 ⊢; exact ih m n h1 h2
            · rw [if_neg e2] at h2 ⊢; exact h2
          · rw [if_neg e1] at h1
            by_cases e2 : ord b c = 0
            · have := L.zero _ _ e2
              subst this
              rw [if_neg e1]; exact h1
            · rw [if_neg e2] at h2
              have h3 := L.trans _ _ _ h1 h2
              rw [if_neg (by omega)]; exact h3

/-- one behind the other -/
def thenO (x y : Int) : Int := if x = 0 then y else x
def ordK (c d : K) : Int := thenO (ordI c.kind d.kind) (thenO (ordI c.a d.a) (ordI c.b d.b))
theorem ordK_lex (c d : K) : ordK c d = lexO ordI [c.kind, c.a, c.b] [d.kind, d.a, d.b] := by
  simp only [ordK, thenO, lexO]
  split
  · split
    · split
      · assumption
      · rfl
    · rfl
  · rfl
theorem linK : Lin ordK := by
  have L := lexO_lin linI
  refine ⟨fun a => by rw [ordK_lex]; exact L.self _, fun a b h => ?_, fun a b => by rw [ordK_lex, ordK_lex]; exact L.anti _ _, fun a b c h h' => by rw [ordK_lex] at *; exact L.trans _ _ _ h h'⟩
  rw [ordK_lex] at h
  have := L.zero _ _ h
  obtain ⟨k, x, y⟩ := a
  obtain ⟨k', x', y'⟩ := b
  simp at this
  obtain ⟨rfl, h1, h2⟩ := this
  have e1 : x = x' := by omega
  have e2 : y = y' := by omega
  subst e1; subst e2; rfl
abbrev ordR : List K → List K → Int := lexO ordK
theorem linR : Lin ordR := lexO_lin linK

/-! what joins -/
theorem popN_one {x : Nat} : ∀ n, popN x n = 1 → ∃ k, k < n ∧ x.testBit k = true ∧ ∀ j, j < n → x.testBit j = true → j = k
  | 0, h => by simp [popN] at h
  | n + 1, h => by
    rw [popN] at h
    by_cases e : x.testBit n = true
    · rw [if_pos e] at h
      have h0 : ∀ m, popN x m = 0 → ∀ j, j < m → x.testBit j = false := by
        intro m
        induction m with
        | zero => intro _ j hj; omega
        | succ m ih =>
          intro h j hj
          rw [popN] at h
          by_cases e : x.testBit m = true
          · rw [if_pos e] at h; omega
          · rw [if_neg e] at h
            by_cases hjm : j = m
            · subst hjm; simpa using e
            · exact ih (by omega) j (by omega)
      refine ⟨n, by omega, e, fun j hj hb => ?_⟩
      by_cases hjn : j = n
      · exact hjn
      · rw [h0 n (by omega) j (by omega)] at hb; exact absurd hb (by decide)
    · rw [if_neg e] at h
      obtain ⟨k, hk, h1, h2⟩ := popN_one n (by omega)
      refine ⟨k, by omega, h1, fun j hj hb => ?_⟩
      by_cases hjn : j = n
      · subst hjn; exact absurd hb e
      · exact h2 j (by omega) hb
theorem popN_pow {k n : Nat} (h : k < n) : popN (2 ^ k) n = 1 := by
  have z : ∀ m, m ≤ k → popN (2 ^ k) m = 0 := by
    intro m
    induction m with
    | zero => intro _; rfl
    | succ m ih => intro hm; rw [popN, ih (by omega), Nat.testBit_two_pow, if_neg (by simp; omega)]
  induction n with
  | zero => omega
  | succ n ih =>
    rw [popN, Nat.testBit_two_pow]
    by_cases e : k = n
    · subst e; rw [z k (Nat.le_refl _)]; simp
    · rw [ih (by omega), if_neg (by simpa using e)]
theorem pop_one_iff {x : Nat} (hx : x < 18446744073709551616) : popN x 64 = 1 ↔ ∃ k, k < 64 ∧ x = 2 ^ k := by
  constructor
  · intro h
    obtain ⟨k, hk, h1, h2⟩ := popN_one 64 h
    refine ⟨k, hk, Nat.eq_of_testBit_eq fun i => ?_⟩
    rw [Nat.testBit_two_pow]
    by_cases hi : i < 64
    · cases hb : x.testBit i with
      | true => have := h2 i hi hb; simp [this]
      | false =>
        have : k ≠ i := fun e => by subst e; rw [h1] at hb; exact absurd hb (by decide)
        simp [this]
    · rw [bit_hi hx (by omega)]
      have : k ≠ i := by omega
      simp [this]
  · rintro ⟨k, hk, rfl⟩; exact popN_pow hk

def joinK (a b : K) : Option K :=
  if a.kind = 1 ∧ b.kind = 1 ∧ a.a = b.a ∧ popN (a.b ^^^ b.b) 64 = 1 then some (newMask (a.a &&& inv (a.b ^^^ b.b)) (a.b &&& inv (a.b ^^^ b.b)))
  else match blockK a, blockK b with
  | some (l1, h1), some (l2, h2) => if l2 ≤ h1 + 1 ∧ l1 ≤ h2 + 1 then some (newRange (min l1 l2) (max h1 h2)) else none
  | _, _ => none

theorem flip_and {m x y k : Nat} (hm : m < 18446744073709551616) (hx : m ||| x = m) (hy : m ||| y = m) (hk : k < 64) (e : x ^^^ y = 2 ^ k) :
    (m &&& inv (2 ^ k)) ||| (x &&& inv (2 ^ k)) = m &&& inv (2 ^ k) ∧ ∀ v, v < 18446744073709551616 → ((v &&& (m &&& inv (2 ^ k)) = x &&& inv (2 ^ k)) ↔ (v &&& m = x ∨ v &&& m = y)) := by
  have hp : 2 ^ k < 18446744073709551616 := Nat.pow_lt_pow_right (a := 2) (by omega) hk
  have bi : ∀ i, (inv (2 ^ k)).testBit i = (decide (i < 64) && !decide (k = i)) := fun i => by rw [bit_inv hp, Nat.testBit_two_pow]
  have vx := valid_mask hx
  have vy := valid_mask hy
  have be : ∀ i, (x.testBit i ^^ y.testBit i) = decide (k = i) := fun i => by rw [← Nat.testBit_xor, e, Nat.testBit_two_pow]
  have hbk : m.testBit k = true := by
    have h1 := be k
    simp only [decide_true] at h1
    cases hxk : x.testBit k with
    | true => exact vx k hxk
    | false => rw [hxk, Bool.false_xor] at h1; exact vy k h1
  constructor
  · apply Nat.eq_of_testBit_eq
    intro i
    simp only [Nat.testBit_or, Nat.testBit_and, bi]
    have := vx i
    cases h1 : x.testBit i <;> cases h2 : m.testBit i <;> simp_all
  · intro v hv
    rw [mask_bits, mask_bits, mask_bits]
    simp only [Nat.testBit_and, bi]
    constructor
    · intro h
      by_cases hvk : v.testBit k = x.testBit k
      · left
        intro i
        by_cases hi : k = i
        · subst hi; rw [hbk, Bool.and_true, hvk]
        · have h1 := h i
          by_cases h64 : i < 64
          · simp [hi, h64] at h1; exact h1
          · have b1 := bit_hi hv (i := i) (by omega)
            have b2 : m.testBit i = false := bit_hi hm (by omega)
            have b3 : x.testBit i = false := by
              cases h3 : x.testBit i with
              | false => rfl
              | true => rw [vx i h3] at b2; exact absurd b2 (by decide)
            simp [b1, b2, b3]
      · right
        intro i
        by_cases hi : k = i
        · subst hi
          have h1 := be k
          simp only [decide_true] at h1
          rw [hbk, Bool.and_true]
          cases h2 : v.testBit k <;> cases h3 : x.testBit k <;> cases h4 : y.testBit k <;> simp_all
        · have h1 := h i
          have h5 := be i
          rw [decide_eq_false hi] at h5
          have h6 : x.testBit i = y.testBit i := by cases h3 : x.testBit i <;> cases h4 : y.testBit i <;> simp_all
          by_cases h64 : i < 64
          · simp [hi, h64] at h1; rw [← h6]; exact h1
          · have b1 := bit_hi hv (i := i) (by omega)
            have b2 : m.testBit i = false := bit_hi hm (by omega)
            have b3 : y.testBit i = false := by
              cases h3 : y.testBit i with
              | false => rfl
              | true => rw [vy i h3] at b2; exact absurd b2 (by decide)
            simp [b1, b2, b3]
    · rintro (h | h) <;> intro i
      · have h1 := h i
        by_cases hi : k = i
        · simp [hi]
        · by_cases h64 : i < 64
          · simp [hi, h64]; exact h1
          · simp [h64]
      · have h1 := h i
        have h5 := be i
        by_cases hi : k = i
        · simp [hi]
        · rw [decide_eq_false hi] at h5
          have h6 : x.testBit i = y.testBit i := by cases h3 : x.testBit i <;> cases h4 : y.testBit i <;> simp_all
          by_cases h64 : i < 64
          · simp [hi, h64]; rw [h6]; exact h1
          · simp [h64]

theorem joinK_some {a b c : K} (ha : Normal a) (hb : Normal b) (h : joinK a b = some c) : Normal c ∧ ∀ v, v < 18446744073709551616 → (holdsK c v = true ↔ (holdsK a v = true ∨ holdsK b v = true)) := by
  unfold joinK at h
  by_cases h0 : a.kind = 1 ∧ b.kind = 1 ∧ a.a = b.a ∧ popN (a.b ^^^ b.b) 64 = 1
  · rw [if_pos h0] at h
    obtain ⟨ak, am, ax⟩ := a
    obtain ⟨bk, bm, bx⟩ := b
    obtain ⟨k1, k2, rfl, hp⟩ := h0
    simp only at k1 k2 hp h
    subst k1; subst k2
    have oa := ha.ok
    have ob := hb.ok
    have va := K.valid_cases ha.valid
    have vb := K.valid_cases hb.valid
    have ma : am ||| ax = am := by
      rcases va with h | ⟨x, y, h, h'⟩ | ⟨x, y, h, h'⟩
      · simp at h
      · simp at h; obtain ⟨rfl, rfl⟩ := h; exact h'
      · simp at h
    have mb : am ||| bx = am := by
      rcases vb with h | ⟨x, y, h, h'⟩ | ⟨x, y, h, h'⟩
      · simp at h
      · simp at h; obtain ⟨rfl, rfl⟩ := h; exact h'
      · simp at h
    obtain ⟨k, hk, e⟩ := (pop_one_iff (xor_lt oa.2.2 ob.2.2)).1 hp
    simp only at e
    obtain ⟨f1, f2⟩ := flip_and oa.2.1 ma mb hk e
    rw [e] at h
    injection h with h
    subst h
    refine ⟨newMask_normal (and_lt oa.2.1) f1, fun v hv => ?_⟩
    rw [newMask_holds f1, holds_mask, holds_mask, holds_mask]
    simp only [beq_iff_eq]
    exact f2 v hv
  · rw [if_neg h0] at h
    cases e1 : blockK a with
    | none => rw [e1] at h; simp at h
    | some p =>
      cases e2 : blockK b with
      | none => rw [e1, e2] at h; simp at h
      | some q =>
        obtain ⟨l1, h1⟩ := p
        obtain ⟨l2, h2⟩ := q
        rw [e1, e2] at h
        simp only at h
        by_cases hr : l2 ≤ h1 + 1 ∧ l1 ≤ h2 + 1
        · rw [if_pos hr] at h
          injection h with h
          subst h
          have b1 := block_lt ha.ok ha.valid e1
          have b2 := block_lt hb.ok hb.valid e2
          have hlh : min l1 l2 ≤ max h1 h2 := by omega
          have hhi : max h1 h2 < 18446744073709551616 := by omega
          refine ⟨newRange_normal hlh hhi, fun v hv => ?_⟩
          rw [newRange_holds hlh hhi hv, holds_range, block_holds ha.ok ha.valid e1 hv, block_holds hb.ok hb.valid e2 hv]
          simp only [Bool.and_eq_true, decide_eq_true_eq]
          omega
        · rw [if_neg hr] at h; simp at h

theorem joinK_none {a b : K} (h : joinK a b = none) : joinK b a = none := by
  unfold joinK at h ⊢
  by_cases h0 : a.kind = 1 ∧ b.kind = 1 ∧ a.a = b.a ∧ popN (a.b ^^^ b.b) 64 = 1
  · rw [if_pos h0] at h; simp at h
  · rw [if_neg h0] at h
    rw [if_neg (by rintro ⟨h1, h2, h3, h4⟩; exact h0 ⟨h2, h1, h3.symm, by rw [Nat.xor_comm]; exact h4⟩)]
    cases e1 : blockK a with
    | none => cases e2 : blockK b <;> simp
    | some p =>
      cases e2 : blockK b with
      | none => simp
      | some q =>
        obtain ⟨l1, h1⟩ := p
        obtain ⟨l2, h2⟩ := q
        rw [e1, e2] at h
        simp only at h ⊢
        by_cases hr : l2 ≤ h1 + 1 ∧ l1 ≤ h2 + 1
        · rw [if_pos hr] at h; simp at h
        · rw [if_neg (by rintro ⟨x, y⟩; exact hr ⟨y, x⟩)]
end Go.Proofs.YtoamapdfcdefjaaGreat
namespace Go.Proofs.YtoamapdfcdefjaaGreat
set_option linter.unusedVariables false

abbrev Ru := List K
/-- a rule of six normal conditions -/
def NR (r : Ru) : Prop := r.length = 6 ∧ ∀ i, Normal (r.getD i K.zero)
theorem normal_zero : Normal K.zero := .inl rfl
theorem getD_set {α : Type} (l : List α) (i j : Nat) (c d : α) : (l.set i c).getD j d = if i = j ∧ i < l.length then c else l.getD j d := by
  simp only [List.getD_eq_getElem?_getD, List.getElem?_set]
  by_cases h : i = j
  · subst h
    by_cases h2 : i < l.length
    · simp [h2]
    · simp [h2]
  · simp [h]
theorem NR.set {r : Ru} (h : NR r) (i : Nat) {c : K} (hc : Normal c) : NR (r.set i c) := by
  refine ⟨by rw [List.length_set]; exact h.1, fun j => ?_⟩
  rw [getD_set]
  split
  · exact hc
  · exact h.2 j

def withinR (a b : Ru) : Bool := (List.range 6).all fun i => withinI (a.getD i K.zero) (b.getD i K.zero)
theorem withinR_iff (a b : Ru) : withinR a b = true ↔ ∀ i, i < 6 → withinI (a.getD i K.zero) (b.getD i K.zero) = true := by
  simp [withinR, List.all_eq_true]
theorem withinR_no {a b : Ru} {i : Nat} (hi : i < 6) (h : withinI (a.getD i K.zero) (b.getD i K.zero) = false) : withinR a b = false := by
  cases e : withinR a b with
  | false => rfl
  | true => rw [(withinR_iff a b).1 e i hi] at h; exact absurd h (by decide)
theorem withinR_self {a : Ru} (h : NR a) : withinR a a = true := (withinR_iff a a).2 fun i _ => (withinI_iff (h.2 i) (h.2 i)).2 fun v _ h => h

/-- for the arguments A -/
def holdsR (r : Ru) (A : Nat → Nat) : Prop := ∀ i, i < 6 → holdsK (r.getD i K.zero) (A i) = true
def A64 (A : Nat → Nat) : Prop := ∀ i, A i < 18446744073709551616
theorem withinR_holds {a b : Ru} (ha : NR a) (hb : NR b) (h : withinR a b = true) {A : Nat → Nat} (hA : A64 A) (h1 : holdsR a A) : holdsR b A := fun i hi =>
  (withinI_iff (ha.2 i) (hb.2 i)).1 ((withinR_iff a b).1 h i hi) (A i) (hA i) (h1 i hi)

/-- they differ at just i, and there they join to c -/
def JoinAt (a b : Ru) (i : Nat) (c : K) : Prop := i < 6 ∧ a.getD i K.zero ≠ b.getD i K.zero ∧ (∀ j, j < 6 → j ≠ i → a.getD j K.zero = b.getD j K.zero) ∧ joinK (a.getD i K.zero) (b.getD i K.zero) = some c
def JoinR (a b r : Ru) : Prop := ∃ i c, JoinAt a b i c ∧ r = a.set i c
def NoJoin (a b : Ru) : Prop := ∀ r, ¬ JoinR a b r
theorem JoinR.uniq {a b r s : Ru} (h : JoinR a b r) (h' : JoinR a b s) : r = s := by
  obtain ⟨i, c, ⟨h1, h2, h3, h4⟩, rfl⟩ := h
  obtain ⟨j, d, ⟨k1, k2, k3, k4⟩, rfl⟩ := h'
  have : i = j := by
    by_cases e : i = j
    · exact e
    · exact absurd (k3 i h1 e) h2
  subst this
  rw [h4] at k4
  cases k4
  rfl
theorem NoJoin.symm {a b : Ru} (h : NoJoin a b) : NoJoin b a := by
  rintro r ⟨i, c, ⟨h1, h2, h3, h4⟩, rfl⟩
  cases e : joinK (a.getD i K.zero) (b.getD i K.zero) with
  | some d => exact h _ ⟨i, d, ⟨h1, fun e => h2 e.symm, fun j hj hne => (h3 j hj hne).symm, e⟩, rfl⟩
  | none => rw [joinK_none e] at h4; cases h4
theorem JoinR.normal {a b r : Ru} (ha : NR a) (hb : NR b) (h : JoinR a b r) : NR r := by
  obtain ⟨i, c, ⟨h1, h2, h3, h4⟩, rfl⟩ := h
  exact ha.set i (joinK_some (ha.2 i) (hb.2 i) h4).1
theorem JoinR.holds {a b r : Ru} (ha : NR a) (hb : NR b) (h : JoinR a b r) {A : Nat → Nat} (hA : A64 A) : holdsR r A ↔ (holdsR a A ∨ holdsR b A) := by
  obtain ⟨i, c, ⟨h1, h2, h3, h4⟩, rfl⟩ := h
  have hc := (joinK_some (ha.2 i) (hb.2 i) h4).2 (A i) (hA i)
  have hl := ha.1
  constructor
  · intro h
    have hi := h i h1
    rw [getD_set, if_pos ⟨rfl, by omega⟩] at hi
    rcases hc.1 hi with g | g
    · left
      intro j hj
      by_cases e : i = j
      · subst e; exact g
      · have := h j hj
        rw [getD_set, if_neg (by rintro ⟨q, _⟩; exact e q)] at this
        exact this
    · right
      intro j hj
      by_cases e : i = j
      · subst e; exact g
      · have := h j hj
        rw [getD_set, if_neg (by rintro ⟨q, _⟩; exact e q)] at this
        rw [← h3 j hj (fun q => e q.symm)]; exact this
  · intro h j hj
    rw [getD_set]
    by_cases e : i = j
    · subst e
      rw [if_pos ⟨rfl, by omega⟩]
      apply hc.2
      rcases h with h | h
      · exact .inl (h i hj)
      · exact .inr (h i hj)
    · rw [if_neg (by rintro ⟨q, _⟩; exact e q)]
      rcases h with h | h
      · exact h j hj
      · rw [h3 j hj (fun q => e q.symm)]; exact h j hj

/-! steps -/
def at' (l : List Ru) (i : Nat) : Ru := l.getD i []
/-- none of the first i is within another -/
def NoWupto (l : List Ru) (i : Nat) : Prop := ∀ p, p < i → ∀ q, q < l.length → p ≠ q → withinR (at' l p) (at' l q) = false
def NoW (l : List Ru) : Prop := NoWupto l l.length
def FirstW (l : List Ru) (i : Nat) : Prop := i < l.length ∧ NoWupto l i ∧ ∃ j, j < l.length ∧ i ≠ j ∧ withinR (at' l i) (at' l j) = true
/-- no pair ahead of (i, j) joins -/
def NoJupto (l : List Ru) (i : Nat) : Prop := ∀ p, p < i → ∀ q, p < q → q < l.length → NoJoin (at' l p) (at' l q)
def NoJ (l : List Ru) : Prop := NoJupto l l.length
def FirstJ (l : List Ru) (i j : Nat) (r : Ru) : Prop := i < j ∧ j < l.length ∧ NoJupto l i ∧ (∀ q, i < q → q < j → NoJoin (at' l i) (at' l q)) ∧ JoinR (at' l i) (at' l j) r
inductive Step (l : List Ru) : List Ru → Prop
  | drop {i : Nat} (h : FirstW l i) : Step l (l.eraseIdx i)
  | join {i j : Nat} {r : Ru} (h0 : NoW l) (h : FirstJ l i j r) : Step l ((l.set i r).eraseIdx j)
def Stuck (l : List Ru) : Prop := NoW l ∧ NoJ l
inductive Steps : List Ru → List Ru → Prop
  | done {l : List Ru} (h : Stuck l) : Steps l l
  | more {l m n : List Ru} (h : Step l m) (h' : Steps m n) : Steps l n

theorem FirstW.uniq {l : List Ru} {i i' : Nat} (h : FirstW l i) (h' : FirstW l i') : i = i' := by
  obtain ⟨h1, h2, j, h3, h4, h5⟩ := h
  obtain ⟨k1, k2, j', k3, k4, k5⟩ := h'
  rcases Nat.lt_trichotomy i i' with g | g | g
  · rw [k2 i g j h3 h4] at h5; exact absurd h5 (by decide)
  · exact g
  · rw [h2 i' g j' k3 k4] at k5; exact absurd k5 (by decide)
theorem FirstW.notNoW {l : List Ru} {i : Nat} (h : FirstW l i) (h' : NoW l) : False := by
  obtain ⟨h1, h2, j, h3, h4, h5⟩ := h
  rw [h' i h1 j h3 h4] at h5; exact absurd h5 (by decide)
theorem FirstJ.uniq {l : List Ru} {i j i' j' : Nat} {r r' : Ru} (h : FirstJ l i j r) (h' : FirstJ l i' j' r') : i = i' ∧ j = j' ∧ r = r' := by
  obtain ⟨h1, h2, h3, h4, h5⟩ := h
  obtain ⟨k1, k2, k3, k4, k5⟩ := h'
  have e : i = i' := by
    rcases Nat.lt_trichotomy i i' with g | g | g
    · exact absurd h5 (k3 i g j h1 h2 r)
    · exact g
    · exact absurd k5 (h3 i' g j' k1 k2 r')
  subst e
  have e : j = j' := by
    rcases Nat.lt_trichotomy j j' with g | g | g
    · exact absurd h5 (k4 j h1 g r)
    · exact g
    · exact absurd k5 (h4 j' k1 g r')
  subst e
  exact ⟨rfl, rfl, h5.uniq k5⟩
theorem FirstJ.notNoJ {l : List Ru} {i j : Nat} {r : Ru} (h : FirstJ l i j r) (h' : NoJ l) : False := by
  obtain ⟨h1, h2, h3, h4, h5⟩ := h
  exact h' i (by omega) j h1 h2 r h5
theorem Step.uniq {l m n : List Ru} (h : Step l m) (h' : Step l n) : m = n := by
  cases h with
  | drop h => cases h' with
    | drop k => rw [h.uniq k]
    | join k0 k => exact (h.notNoW k0).elim
  | join h0 h => cases h' with
    | drop k => exact (k.notNoW h0).elim
    | join k0 k => obtain ⟨rfl, rfl, rfl⟩ := h.uniq k; rfl
theorem Step.notStuck {l m : List Ru} (h : Step l m) (h' : Stuck l) : False := by
  cases h with
  | drop h => exact h.notNoW h'.1
  | join h0 h => exact h.notNoJ h'.2
theorem Steps.uniq {l m n : List Ru} (h : Steps l m) (h' : Steps l n) : m = n := by
  induction h with
  | done h => cases h' with
    | done k => rfl
    | more k k' => exact (k.notStuck h).elim
  | more h hh ih => cases h' with
    | done k => exact (h.notStuck k).elim
    | more k k' => obtain rfl := h.uniq k; exact ih k'
theorem Steps.stuck {l m : List Ru} (h : Steps l m) : Stuck m := by
  induction h with
  | done h => exact h
  | more h hh ih => exact ih

def NRs (l : List Ru) : Prop := ∀ r ∈ l, NR r
theorem at_mem {l : List Ru} {i : Nat} (h : i < l.length) : at' l i ∈ l := by
  rw [at', List.getD_eq_getElem?_getD, List.getElem?_eq_getElem h]; exact List.getElem_mem h
theorem mem_at {l : List Ru} {r : Ru} (h : r ∈ l) : ∃ i, i < l.length ∧ at' l i = r := by
  obtain ⟨i, hi, rfl⟩ := List.getElem_of_mem h
  exact ⟨i, hi, by rw [at', List.getD_eq_getElem?_getD, List.getElem?_eq_getElem hi]; rfl⟩
theorem mem_erase {α : Type} {l : List α} {i : Nat} {x : α} : x ∈ l.eraseIdx i ↔ ∃ j, j ≠ i ∧ l[j]? = some x := by
  rw [List.mem_eraseIdx_iff_getElem?]
theorem at_get {l : List Ru} {i : Nat} (h : i < l.length) : l[i]? = some (at' l i) := by
  rw [at', List.getD_eq_getElem?_getD, List.getElem?_eq_getElem h]; rfl

def allowsR (l : List Ru) (A : Nat → Nat) : Prop := ∃ r ∈ l, holdsR r A
theorem Step.keeps {l m : List Ru} (h : Step l m) (hl : NRs l) : NRs m ∧ m.length + 1 = l.length ∧ (l ≠ [] → m ≠ []) ∧ ∀ A, A64 A → (allowsR m A ↔ allowsR l A) := by
  cases h with
  | @drop i h =>
    obtain ⟨h1, h2, j, h3, h4, h5⟩ := h
    have hlen : (l.eraseIdx i).length + 1 = l.length := by rw [List.length_eraseIdx, if_pos h1]; omega
    refine ⟨fun r hr => hl r (List.mem_of_mem_eraseIdx hr), hlen, fun _ e => by rw [e] at hlen; simp at hlen; omega, fun A hA => ⟨?_, ?_⟩⟩
    · rintro ⟨r, hr, h⟩; exact ⟨r, List.mem_of_mem_eraseIdx hr, h⟩
    · rintro ⟨r, hr, h⟩
      obtain ⟨k, hk, rfl⟩ := mem_at hr
      by_cases e : k = i
      · subst e
        exact ⟨at' l j, mem_erase.2 ⟨j, fun q => h4 q.symm, at_get h3⟩, withinR_holds (hl _ (at_mem hk)) (hl _ (at_mem h3)) h5 hA h⟩
      · exact ⟨at' l k, mem_erase.2 ⟨k, e, at_get hk⟩, h⟩
  | @join i j r h0 h =>
    obtain ⟨h1, h2, h3, h4, h5⟩ := h
    have hi : i < l.length := by omega
    have nr := h5.normal (hl _ (at_mem hi)) (hl _ (at_mem h2))
    have hh : ∀ A, A64 A → (holdsR r A ↔ (holdsR (at' l i) A ∨ holdsR (at' l j) A)) := fun A hA => h5.holds (hl _ (at_mem hi)) (hl _ (at_mem h2)) hA
    have hlen : ((l.set i r).eraseIdx j).length + 1 = l.length := by rw [List.length_eraseIdx, List.length_set, if_pos h2]; omega
    have gi : (l.set i r)[i]? = some r := by rw [List.getElem?_set_self hi]
    have gk : ∀ k, k ≠ i → (l.set i r)[k]? = l[k]? := fun k hk => List.getElem?_set_ne (fun e => hk e.symm)
    refine ⟨fun s hs => ?_, hlen, fun _ e => by rw [e] at hlen; simp at hlen; omega, fun A hA => ⟨?_, ?_⟩⟩
    · obtain ⟨k, hk, hs⟩ := mem_erase.1 hs
      by_cases e : k = i
      · subst e; rw [gi] at hs; cases hs; exact nr
      · rw [gk k e] at hs; exact hl s (List.mem_of_getElem? hs)
    · rintro ⟨s, hs, h⟩
      obtain ⟨k, hk, hs⟩ := mem_erase.1 hs
      by_cases e : k = i
      · subst e; rw [gi] at hs; cases hs
        rcases (hh A hA).1 h with h | h
        · exact ⟨_, at_mem hi, h⟩
        · exact ⟨_, at_mem h2, h⟩
      · rw [gk k e] at hs; exact ⟨s, List.mem_of_getElem? hs, h⟩
    · rintro ⟨s, hs, h⟩
      obtain ⟨k, hk, rfl⟩ := mem_at hs
      by_cases e : k = i
      · subst e
        exact ⟨r, mem_erase.2 ⟨k, by omega, gi⟩, (hh A hA).2 (.inl h)⟩
      · by_cases e2 : k = j
        · subst e2
          exact ⟨r, mem_erase.2 ⟨i, by omega, gi⟩, (hh A hA).2 (.inr h)⟩
        · exact ⟨at' l k, mem_erase.2 ⟨k, e2, by rw [gk k e]; exact at_get hk⟩, h⟩
theorem Steps.keeps {l m : List Ru} (h : Steps l m) (hl : NRs l) : NRs m ∧ m.length ≤ l.length ∧ (l ≠ [] → m ≠ []) ∧ ∀ A, A64 A → (allowsR m A ↔ allowsR l A) := by
  induction h with
  | done h => exact ⟨hl, Nat.le_refl _, fun h => h, fun A _ => Iff.rfl⟩
  | more h hh ih =>
    obtain ⟨a, b, c, d⟩ := h.keeps hl
    obtain ⟨a', b', c', d'⟩ := ih a
    exact ⟨a', by omega, fun q => c' (c q), fun A hA => (d' A hA).trans (d A hA)⟩

/-- the rules, made normal -/
def normR (r : Ru) : Ru := (List.range 6).map fun i => normK (r.getD i K.zero)
/-- what the rules are made into -/
def IsSmall (rules out : List Ru) : Prop := ∃ l m, DistG ordR (rules.map normR) l ∧ Steps l m ∧ DistG ordR m out
theorem IsSmall.uniq {rules out out' : List Ru} (h : IsSmall rules out) (h' : IsSmall rules out') : out = out' := by
  obtain ⟨l, m, h1, h2, h3⟩ := h
  obtain ⟨l', m', k1, k2, k3⟩ := h'
  obtain rfl := distG_uniq linR h1 k1
  obtain rfl := h2.uniq k2
  exact distG_uniq linR h3 k3
theorem IsSmall.perm {rules rules' out : List Ru} (h : IsSmall rules out) (hp : ∀ r, r ∈ rules ↔ r ∈ rules') : IsSmall rules' out := by
  obtain ⟨l, m, h1, h2, h3⟩ := h
  refine ⟨l, m, ⟨h1.1, fun c => ?_⟩, h2, h3⟩
  rw [h1.2 c]
  simp only [List.mem_map]
  constructor
  · rintro ⟨a, ha, rfl⟩; exact ⟨a, (hp a).1 ha, rfl⟩
  · rintro ⟨a, ha, rfl⟩; exact ⟨a, (hp a).2 ha, rfl⟩

theorem normR_getD (r : Ru) {i : Nat} (h : i < 6) : (normR r).getD i K.zero = normK (r.getD i K.zero) := by
  simp [normR, List.getD_eq_getElem?_getD, h]
theorem normR_len (r : Ru) : (normR r).length = 6 := by simp [normR]
theorem normR_getD_hi (r : Ru) {i : Nat} (h : 6 ≤ i) : (normR r).getD i K.zero = K.zero := by
  rw [List.getD_eq_getElem?_getD, List.getElem?_eq_none (by rw [normR_len]; exact h)]; rfl
/-- six valid conditions of 64 bits -/
def VR (r : Ru) : Prop := r.length = 6 ∧ ∀ i, (r.getD i K.zero).ok ∧ validK (r.getD i K.zero) = true
theorem NR.vr {r : Ru} (h : NR r) : VR r := ⟨h.1, fun i => ⟨(h.2 i).ok, (h.2 i).valid⟩⟩
theorem normR_NR {r : Ru} (h : VR r) : NR (normR r) := by
  refine ⟨normR_len r, fun i => ?_⟩
  by_cases hi : i < 6
  · rw [normR_getD r hi]; exact normK_normal (h.2 i).1 (h.2 i).2
  · rw [normR_getD_hi r (by omega)]; exact normal_zero
theorem normR_holds {r : Ru} (h : VR r) {A : Nat → Nat} (hA : A64 A) : holdsR (normR r) A ↔ holdsR r A := by
  constructor
  · intro h1 i hi
    have := h1 i hi
    rw [normR_getD r hi, normK_holds (h.2 i).1 (h.2 i).2 (hA i)] at this; exact this
  · intro h1 i hi
    rw [normR_getD r hi, normK_holds (h.2 i).1 (h.2 i).2 (hA i)]; exact h1 i hi
theorem normR_same {r : Ru} (h : NR r) : normR r = r := by
  apply List.ext_getElem
  · rw [normR_len, h.1]
  · intro i h1 h2
    have h6 : i < 6 := by rw [normR_len] at h1; exact h1
    have e := normR_getD r h6
    rw [(h.2 i).norm, List.getD_eq_getElem?_getD, List.getElem?_eq_getElem h1, List.getD_eq_getElem?_getD, List.getElem?_eq_getElem h2] at e
    exact e

theorem NoW.nodup {m : List Ru} (h : NoW m) (hm : NRs m) : m.Nodup := by
  rw [List.nodup_iff_pairwise_ne, List.pairwise_iff_getElem]
  intro i j hi hj hij e
  have h1 := h i hi j hj (by omega)
  have ei : at' m i = m[i] := by rw [at', List.getD_eq_getElem?_getD, List.getElem?_eq_getElem hi]; rfl
  have ej : at' m j = m[j] := by rw [at', List.getD_eq_getElem?_getD, List.getElem?_eq_getElem hj]; rfl
  rw [ei, ej, ← e] at h1
  rw [withinR_self (hm _ (List.getElem_mem hi))] at h1
  exact absurd h1 (by decide)
/-- by members: no two different ones within each other or joining -/
theorem stuck_mem {m : List Ru} (hm : NRs m) : Stuck m ↔ (m.Nodup ∧ (∀ a ∈ m, ∀ b ∈ m, a ≠ b → withinR a b = false) ∧ (∀ a ∈ m, ∀ b ∈ m, a ≠ b → NoJoin a b)) := by
  constructor
  · intro h
    refine ⟨h.1.nodup hm, fun a ha b hb hne => ?_, fun a ha b hb hne => ?_⟩
    · obtain ⟨i, hi, rfl⟩ := mem_at ha
      obtain ⟨j, hj, rfl⟩ := mem_at hb
      exact h.1 i hi j hj (fun e => hne (by rw [e]))
    · obtain ⟨i, hi, rfl⟩ := mem_at ha
      obtain ⟨j, hj, rfl⟩ := mem_at hb
      rcases Nat.lt_trichotomy i j with g | g | g
      · exact h.2 i hi j g hj
      · subst g; exact absurd rfl hne
      · exact (h.2 j hj i g hi).symm
  · rintro ⟨h1, h2, h3⟩
    have hd : ∀ p q, p < m.length → q < m.length → p ≠ q → at' m p ≠ at' m q := by
      intro p q hp hq hne e
      have ep : at' m p = m[p] := by rw [at', List.getD_eq_getElem?_getD, List.getElem?_eq_getElem hp]; rfl
      have eq : at' m q = m[q] := by rw [at', List.getD_eq_getElem?_getD, List.getElem?_eq_getElem hq]; rfl
      rw [ep, eq] at e
      rw [List.nodup_iff_pairwise_ne, List.pairwise_iff_getElem] at h1
      rcases Nat.lt_or_gt_of_ne hne with g | g
      · exact h1 p q hp hq g e
      · exact h1 q p hq hp g e.symm
    refine ⟨fun p hp q hq hne => h2 _ (at_mem hp) _ (at_mem hq) (hd p q hp hq hne), fun p hp q hpq hq => h3 _ (at_mem hp) _ (at_mem hq) (hd p q hp hq (by omega))⟩

structure SmallFacts (rules out : List Ru) : Prop where
  nr : NRs out
  len : out.length ≤ rules.length
  ne : rules ≠ [] → out ≠ []
  allows : ∀ A, A64 A → (allowsR out A ↔ allowsR rules A)
  asc : AscG ordR out
  stuck : Stuck out

theorem IsSmall.facts {rules out : List Ru} (hr : ∀ r ∈ rules, VR r) (h : IsSmall rules out) : SmallFacts rules out := by
  obtain ⟨l, m, h1, h2, h3⟩ := h
  have hl : NRs l := fun r hr' => by
    have := (h1.2 r).1 hr'
    simp only [List.mem_map] at this
    obtain ⟨a, ha, rfl⟩ := this
    exact normR_NR (hr a ha)
  obtain ⟨k1, k2, k3, k4⟩ := h2.keeps hl
  have ho : NRs out := fun r hr' => k1 r ((h3.2 r).1 hr')
  have st := (stuck_mem k1).1 h2.stuck
  have lo : out.length ≤ m.length := nodup_len (ascG_nodup linR h3.1) fun c hc => (h3.2 c).1 hc
  have ll : l.length ≤ rules.length := by
    have := nodup_len (ascG_nodup linR h1.1) fun c hc => (h1.2 c).1 hc
    simpa using this
  refine ⟨ho, by omega, fun hne e => ?_, fun A hA => ?_, h3.1, (stuck_mem ho).2 ⟨ascG_nodup linR h3.1, fun a ha b hb => st.2.1 a ((h3.2 a).1 ha) b ((h3.2 b).1 hb), fun a ha b hb => st.2.2 a ((h3.2 a).1 ha) b ((h3.2 b).1 hb)⟩⟩
  · cases rules with
    | nil => exact hne rfl
    | cons a t =>
      have hl0 : l ≠ [] := fun e => by
        have := (h1.2 (normR a)).2 (by simp)
        rw [e] at this; simp at this
      have hm0 := k3 hl0
      cases m with
      | nil => exact hm0 rfl
      | cons b s =>
        have := (h3.2 b).2 (by simp)
        rw [e] at this; simp at this
  · have e1 : allowsR out A ↔ allowsR m A := by
      constructor
      · rintro ⟨r, hr', h⟩; exact ⟨r, (h3.2 r).1 hr', h⟩
      · rintro ⟨r, hr', h⟩; exact ⟨r, (h3.2 r).2 hr', h⟩
    have e2 : allowsR l A ↔ allowsR rules A := by
      constructor
      · rintro ⟨r, hr', h⟩
        have := (h1.2 r).1 hr'
        simp only [List.mem_map] at this
        obtain ⟨a, ha, rfl⟩ := this
        exact ⟨a, ha, (normR_holds (hr a ha) hA).1 h⟩
      · rintro ⟨r, hr', h⟩
        exact ⟨normR r, (h1.2 _).2 (List.mem_map.2 ⟨r, hr', rfl⟩), (normR_holds (hr r hr') hA).2 h⟩
    exact e1.trans ((k4 A hA).trans e2)
/-- once more: the same -/
theorem SmallFacts.again {rules out : List Ru} (h : SmallFacts rules out) : IsSmall out out := by
  refine ⟨out, out, ⟨h.asc, fun c => ?_⟩, .done h.stuck, distG_self h.asc⟩
  simp only [List.mem_map]
  constructor
  · intro hc; exact ⟨c, hc, normR_same (h.nr c hc)⟩
  · rintro ⟨a, ha, rfl⟩; rw [normR_same (h.nr a ha)]; exact ha
end Go.Proofs.YtoamapdfcdefjaaGreat
namespace Go.Proofs.YtoamapdfcdefjaaGreat
set_option linter.unusedVariables false

theorem vr_of {r : Ru} (ho : okR r) (hv : validR r = true) : VR r := by
  rw [validR, Bool.and_eq_true, beq_iff_eq, all_getD K.zero] at hv
  refine ⟨hv.1, fun i => ⟨okR_at ho i, ?_⟩⟩
  by_cases hi : i < r.length
  · exact hv.2 i hi
  · rw [List.getD_eq_getElem?_getD, List.getElem?_eq_none (by omega)]; rfl
theorem VR.valid {r : Ru} (h : VR r) : validR r = true := by
  rw [validR, Bool.and_eq_true, beq_iff_eq, all_getD K.zero]
  exact ⟨h.1, fun i _ => (h.2 i).2⟩
theorem VR.okR {r : Ru} (h : VR r) : okR r := by
  intro c hc
  obtain ⟨i, hi, rfl⟩ := List.getElem_of_mem hc
  have := (h.2 i).1
  rw [List.getD_eq_getElem?_getD, List.getElem?_eq_getElem hi] at this; exact this

/-- the arguments, as numbers -/
def argN (args : List Int) (i : Nat) : Nat := (args.getD i 0).toNat
theorem ruleHolds_iff (r : Ru) (args : List Int) : ruleHolds r args = true ↔ holdsR r (argN args) := by
  rw [ruleHolds, List.all_eq_true]
  constructor
  · intro h i hi; exact h i (List.mem_range.2 hi)
  · intro h i hi; exact h i (List.mem_range.1 hi)
theorem anyRule_iff (l : List Ru) (args : List Int) : (l.any fun r => ruleHolds r args) = true ↔ allowsR l (argN args) := by
  rw [List.any_eq_true]
  constructor
  · rintro ⟨r, hr, h⟩; exact ⟨r, hr, (ruleHolds_iff r args).1 h⟩
  · rintro ⟨r, hr, h⟩; exact ⟨r, hr, (ruleHolds_iff r args).2 h⟩

/-- entry by entry the same numbers and the rules made few -/
def IsMin (p out : List E) : Prop := out.length = p.length ∧ ∀ i, i < p.length → (out.getD i E.zero).arch = (p.getD i E.zero).arch ∧ (out.getD i E.zero).nr = (p.getD i E.zero).nr ∧ IsSmall (p.getD i E.zero).rules (out.getD i E.zero).rules

theorem ext_getD {α : Type} (d : α) {l m : List α} (h : l.length = m.length) (h' : ∀ i, i < l.length → l.getD i d = m.getD i d) : l = m := by
  apply List.ext_getElem h
  intro i h1 h2
  have := h' i h1
  rw [List.getD_eq_getElem?_getD, List.getD_eq_getElem?_getD, List.getElem?_eq_getElem h1, List.getElem?_eq_getElem h2] at this
  exact this
theorem IsMin.uniq {p out out' : List E} (h : IsMin p out) (h' : IsMin p out') : out = out' := by
  apply ext_getD E.zero (by rw [h.1, h'.1])
  intro i hi
  rw [h.1] at hi
  obtain ⟨a, b, c⟩ := h.2 i hi
  obtain ⟨a', b', c'⟩ := h'.2 i hi
  have e := c.uniq c'
  generalize out.getD i E.zero = x at *
  generalize out'.getD i E.zero = y at *
  obtain ⟨x1, x2, x3⟩ := x
  obtain ⟨y1, y2, y3⟩ := y
  simp only at a b a' b' e
  rw [a, a', b, b', e]

theorem validP_parts {p : List E} (h : validP p = true) {i : Nat} (hi : i < p.length) : validE (p.getD i E.zero) = true ∧ (0 < i → befE (p.getD (i - 1) E.zero) (p.getD i E.zero) = true) := by
  have := validP_step h hi
  rw [stepOk, Bool.and_eq_true, Bool.or_eq_true] at this
  refine ⟨this.2, fun h0 => ?_⟩
  rcases this.1 with g | g
  · simp at g; omega
  · exact g
theorem validE_parts {e : E} (h : validE e = true) : 1 ≤ e.rules.length ∧ e.rules.length ≤ 200 ∧ ∀ r ∈ e.rules, validR r = true := by
  rw [validE, Bool.and_eq_true, Bool.and_eq_true, decide_eq_true_eq, decide_eq_true_eq, List.all_eq_true] at h
  exact ⟨h.1.1, h.1.2, h.2⟩
theorem validE_mk {e : E} (h1 : 1 ≤ e.rules.length) (h2 : e.rules.length ≤ 200) (h3 : ∀ r ∈ e.rules, validR r = true) : validE e = true := by
  rw [validE, Bool.and_eq_true, Bool.and_eq_true, decide_eq_true_eq, decide_eq_true_eq, List.all_eq_true]
  exact ⟨⟨h1, h2⟩, h3⟩
theorem valid_rules {p : List E} (hv : validP p = true) (ho : okP p) {i : Nat} (hi : i < p.length) : ∀ r ∈ (p.getD i E.zero).rules, VR r := fun r hr =>
  vr_of ((okP_at ho i).2.2 r hr) ((validE_parts (validP_parts hv hi).1).2.2 r hr)

theorem totalR_mono {p q : List E} : ∀ (h : p.length = q.length), (∀ i, i < p.length → (p.getD i E.zero).rules.length ≤ (q.getD i E.zero).rules.length) → totalR p ≤ totalR q := by
  induction p generalizing q with
  | nil => intro h _; simp [totalR]
  | cons a p ih =>
    intro h h1
    cases q with
    | nil => simp at h
    | cons b q =>
      have h0 := h1 0 (by simp)
      have := ih (q := q) (by simpa using h) (fun i hi => by have := h1 (i + 1) (by simpa using hi); simpa using this)
      simp only [totalR]
      simp at h0
      omega

structure MinFacts (p out : List E) : Prop where
  valid : validP out = true
  ok : okP out
  len : out.length = p.length
  each : ∀ i, i < p.length → SmallFacts (p.getD i E.zero).rules (out.getD i E.zero).rules
  allows : ∀ c : C, A64 (argN c.args) → allowsP out c = allowsP p c

theorem IsMin.facts {p out : List E} (hv : validP p = true) (ho : okP p) (h : IsMin p out) : MinFacts p out := by
  have each : ∀ i, i < p.length → SmallFacts (p.getD i E.zero).rules (out.getD i E.zero).rules := fun i hi => (h.2 i hi).2.2.facts (valid_rules hv ho hi)
  have vo : validP out = true := by
    rw [validP_yes]
    · rw [decide_eq_true_eq]
      have h1 : totalR p ≤ 1000 := by
        rw [validP, Bool.and_eq_true, decide_eq_true_eq] at hv; exact hv.2
      exact Nat.le_trans (totalR_mono h.1 (fun i hi => (each i (by rw [← h.1]; exact hi)).len)) h1
    · intro i hi
      rw [h.1] at hi
      obtain ⟨e1, e2⟩ := validP_parts hv hi
      obtain ⟨v1, v2, v3⟩ := validE_parts e1
      have f := each i hi
      rw [stepOk, Bool.and_eq_true, Bool.or_eq_true]
      constructor
      · by_cases h0 : i = 0
        · left; simp [h0]
        · right
          have := e2 (by omega)
          obtain ⟨a, b, _⟩ := h.2 i hi
          obtain ⟨a', b', _⟩ := h.2 (i - 1) (by omega)
          unfold befE at this ⊢
          rw [a, b, a', b']; exact this
      · refine validE_mk ?_ ?_ ?_
        · have := f.ne (fun e => by rw [e] at v1; simp at v1)
          cases h : (out.getD i E.zero).rules with
          | nil => exact absurd h this
          | cons a t => simp
        · have := f.len; omega
        · intro r hr; exact (f.nr r hr).vr.valid
  refine ⟨vo, ?_, h.1, each, ?_⟩
  · intro e he
    obtain ⟨i, hi, rfl⟩ := List.getElem_of_mem he
    have hi' : i < p.length := by rw [← h.1]; exact hi
    have e1 : out.getD i E.zero = out[i] := by rw [List.getD_eq_getElem?_getD, List.getElem?_eq_getElem hi]; rfl
    rw [← e1]
    obtain ⟨a, b, _⟩ := h.2 i hi'
    have f := each i hi'
    have o := okP_at ho i
    refine ⟨by rw [a]; exact o.1, by rw [b]; exact o.2.1, fun r hr => (f.nr r hr).vr.okR⟩
  · intro c hA
    rw [allowsP, allowsP, vo, hv]
    congr 1
    rw [Bool.eq_iff_iff, any_getD E.zero, any_getD E.zero]
    have key : ∀ i, i < p.length → ((meets (out.getD i E.zero) c && (out.getD i E.zero).rules.any fun r => ruleHolds r c.args) = true ↔ (meets (p.getD i E.zero) c && (p.getD i E.zero).rules.any fun r => ruleHolds r c.args) = true) := by
      intro i hi
      obtain ⟨a, b, _⟩ := h.2 i hi
      have f := (each i hi).allows (argN c.args) hA
      rw [Bool.and_eq_true, Bool.and_eq_true, anyRule_iff, anyRule_iff, f]
      unfold meets
      rw [a, b]
    constructor
    · rintro ⟨i, hi, h1⟩
      rw [h.1] at hi
      exact ⟨i, hi, (key i hi).1 h1⟩
    · rintro ⟨i, hi, h1⟩
      exact ⟨i, by rw [h.1]; exact hi, (key i hi).2 h1⟩
theorem MinFacts.again {p out : List E} (h : MinFacts p out) : IsMin out out :=
  ⟨rfl, fun i hi => ⟨rfl, rfl, (h.each i (by rw [← h.len]; exact hi)).again⟩⟩
end Go.Proofs.YtoamapdfcdefjaaGreat
