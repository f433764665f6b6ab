/-
  PLAIN MATHEMATICS of the order of calls and of the different calls in that order. No Go in sight.
-/
import Derived.Test.YtjkmcdgjhfiklaaMathN
namespace Go.Proofs.Ytjkmcdgjhfiklaa
set_option linter.unusedVariables false

def ordI (a b : Int) : Int := if a < b then -1 else if b < a then 1 else 0
def ordL : List Int → List Int → Int
  | [], [] => 0
  | [], _ :: _ => -1
  | _ :: _, [] => 1
  | a :: r, b :: s => if ordI a b = 0 then ordL r s else ordI a b
def ordC (a b : C) : Int := if ordI a.arch b.arch ≠ 0 then ordI a.arch b.arch else if ordI a.nr b.nr ≠ 0 then ordI a.nr b.nr else ordL a.args b.args

theorem ordI_anti (a b : Int) : ordI a b = - ordI b a := by unfold ordI; split <;> split <;> (try split) <;> omega
theorem ordI_zero {a b : Int} (h : ordI a b = 0) : a = b := by unfold ordI at h; split at h <;> (try split at h) <;> omega
theorem ordI_self (a : Int) : ordI a a = 0 := by unfold ordI; simp
theorem ordI_lt {a b : Int} : ordI a b < 0 ↔ a < b := by unfold ordI; split <;> (try split) <;> omega
theorem ordI_bd (a b : Int) : ordI a b = -1 ∨ ordI a b = 0 ∨ ordI a b = 1 := by unfold ordI; split <;> (try split) <;> omega
theorem ordL_self (l : List Int) : ordL l l = 0 := by
  induction l with
  | nil => rfl
  | cons a r ih => simp [ordL, ordI_self, ih]
theorem ordL_zero {l m : List Int} (h : ordL l m = 0) : l = m := by
  induction l generalizing m with
  | nil => cases m with
    | nil => rfl
    | cons => simp [ordL] at h
  | cons a r ih => cases m with
    | nil => simp [ordL] at h
    | cons b s =>
      unfold ordL at h
      split at h
      · rename_i h0; rw [ordI_zero h0, ih h]
      · exact absurd h (by assumption)
theorem ordL_anti (l m : List Int) : ordL l m = - ordL m l := by
  induction l generalizing m with
  | nil => cases m <;> simp [ordL]
  | cons a r ih => cases m with
    | nil => simp [ordL]
    | cons b s =>
      unfold ordL
      have := ordI_anti a b
      by_cases h : ordI a b = 0
      · rw [if_pos h, if_pos (by omega), ih s]
      · rw [if_neg h, if_neg (by omega)]; exact this
theorem ordL_trans {l m n : List Int} (h : ordL l m < 0) (h' : ordL m n < 0) : ordL l n < 0 := by
  induction l generalizing m n with
  | nil => cases m with
    | nil => simp [ordL] at h
    | cons b s => cases n with
      | nil => simp [ordL] at h'
      | cons => simp [ordL]
  | cons a r ih => cases m with
    | nil => simp [ordL] at h
    | cons b s => cases n with
      | nil => simp [ordL] at h'
      | cons c t =>
        unfold ordL at h h' ⊢
        by_cases e1 : ordI a b = 0
        · rw [if_pos e1] at h
          obtain rfl := ordI_zero e1
          by_cases e2 : ordI a c = 0
          · rw [if_pos e2] at h' ⊢; exact ih h h'
          · rw [if_neg e2] at h' ⊢; exact h'
        · rw [if_neg e1] at h
          by_cases e2 : ordI b c = 0
          · obtain rfl := ordI_zero e2
            rw [if_neg e1]; exact h
          · rw [if_neg e2] at h'
            have h1 := ordI_lt.1 h
            have h2 := ordI_lt.1 h'
            have h3 : ordI a c < 0 := ordI_lt.2 (by omega)
            rw [if_neg (by omega)]; exact h3
theorem ordL_bd (l m : List Int) : ordL l m = -1 ∨ ordL l m = 0 ∨ ordL l m = 1 := by
  induction l generalizing m with
  | nil => cases m <;> simp [ordL]
  | cons a r ih => cases m with
    | nil => simp [ordL]
    | cons b s =>
      unfold ordL
      split
      · exact ih s
      · exact ordI_bd a b

theorem ordC_self (a : C) : ordC a a = 0 := by simp [ordC, ordI_self, ordL_self]
theorem ordC_zero {a b : C} (h : ordC a b = 0) : a = b := by
  unfold ordC at h
  split at h
  · contradiction
  · rename_i h1
    split at h
    · contradiction
    · rename_i h2
      have e1 := ordI_zero (by omega : ordI a.arch b.arch = 0)
      have e2 := ordI_zero (by omega : ordI a.nr b.nr = 0)
      have e3 := ordL_zero h
      cases a; cases b; simp_all
theorem ordC_anti (a b : C) : ordC a b = - ordC b a := by
  unfold ordC
  have h1 := ordI_anti a.arch b.arch
  have h2 := ordI_anti a.nr b.nr
  have h3 := ordL_anti a.args b.args
  repeat' split
  all_goals omega
theorem ordC_trans {a b c : C} (h : ordC a b < 0) (h' : ordC b c < 0) : ordC a c < 0 := by
  unfold ordC at h h' ⊢
  have i1 := @ordI_lt a.arch b.arch
  have i2 := @ordI_lt b.arch c.arch
  have i3 := @ordI_lt a.arch c.arch
  have j1 := @ordI_lt a.nr b.nr
  have j2 := @ordI_lt b.nr c.nr
  have j3 := @ordI_lt a.nr c.nr
  have z1 := @ordI_zero a.arch b.arch
  have z2 := @ordI_zero b.arch c.arch
  have z3 := @ordI_zero a.arch c.arch
  have y1 := @ordI_zero a.nr b.nr
  have y2 := @ordI_zero b.nr c.nr
  have y3 := @ordI_zero a.nr c.nr
  have t := @ordL_trans a.args b.args c.args
  have s1 := ordI_self a.arch
  by_cases hA : ordI a.arch b.arch = 0
  · have eA := z1 hA
    rw [eA] at *
    by_cases hB : ordI b.arch c.arch = 0
    · rw [if_neg (by omega)] at h h' ⊢
      by_cases hC : ordI a.nr b.nr = 0
      · have eC := y1 hC
        rw [eC] at *
        by_cases hD : ordI b.nr c.nr = 0
        · rw [if_neg (by omega)] at h h' ⊢
          exact t h h'
        · rw [if_pos hD] at h' ⊢; exact h'
      · rw [if_pos hC] at h
        have k1 := j1.1 h
        by_cases hD : ordI b.nr c.nr = 0
        · have eD := y2 hD
          rw [← eD, if_pos hC]; exact h
        · rw [if_pos hD] at h'
          have k2 := j2.1 h'
          have k3 := j3.2 (by omega)
          rw [if_pos (by omega)]; exact k3
    · rw [if_pos hB] at h' ⊢; exact h'
  · rw [if_pos hA] at h
    have k1 := i1.1 h
    by_cases hB : ordI b.arch c.arch = 0
    · have eB := z2 hB
      rw [← eB, if_pos hA]; exact h
    · rw [if_pos hB] at h'
      have k2 := i2.1 h'
      have k3 := i3.2 (by omega)
      rw [if_pos (by omega)]; exact k3
theorem ordC_bd (a b : C) : ordC a b = -1 ∨ ordC a b = 0 ∨ ordC a b = 1 := by
  unfold ordC
  split
  · exact ordI_bd _ _
  · split
    · exact ordI_bd _ _
    · exact ordL_bd _ _
theorem ordC_le_lt {a b c : C} (h : ordC a b ≤ 0) (h' : ordC b c < 0) : ordC a c < 0 := by
  by_cases e : ordC a b = 0
  · rw [ordC_zero e]; exact h'
  · exact ordC_trans (by omega) h'
theorem ordC_lt_le {a b c : C} (h : ordC a b < 0) (h' : ordC b c ≤ 0) : ordC a c < 0 := by
  by_cases e : ordC b c = 0
  · rw [← ordC_zero e]; exact h
  · exact ordC_trans h (by omega)
theorem ordC_le_trans {a b c : C} (h : ordC a b ≤ 0) (h' : ordC b c ≤ 0) : ordC a c ≤ 0 := by
  by_cases e : ordC a b = 0
  · rw [ordC_zero e]; exact h'
  · have := ordC_lt_le (a := a) (by omega) h'; omega

/-- each once, ascending -/
def Asc (r : List C) : Prop := r.Pairwise fun a b => ordC a b < 0
/-- the different ones of cs, ascending -/
def IsDist (cs r : List C) : Prop := Asc r ∧ ∀ c, c ∈ r ↔ c ∈ cs

theorem asc_uniq {r s : List C} (h : Asc r) (h' : Asc s) (e : ∀ c, c ∈ r ↔ c ∈ s) : r = s := by
  induction r generalizing s with
  | nil => cases s with
    | nil => rfl
    | cons b s => exact absurd ((e b).2 (by simp)) (by simp)
  | cons a r ih => cases s with
    | nil => exact absurd ((e a).1 (by simp)) (by simp)
    | cons b s =>
      have ha := List.pairwise_cons.1 h
      have hb := List.pairwise_cons.1 h'
      have eab : a = b := by
        have m1 := (e a).1 (by simp)
        have m2 := (e b).2 (by simp)
        simp only [List.mem_cons] at m1 m2
        rcases m1 with m1 | m1
        · exact m1
        · rcases m2 with m2 | m2
          · exact m2.symm
          · have g1 := hb.1 a m1
            have g2 := ha.1 b m2
            have := ordC_anti a b
            omega
      subst eab
      congr 1
      refine ih ha.2 hb.2 fun c => ?_
      constructor
      · intro hc
        have := (e c).1 (by simp [hc])
        simp only [List.mem_cons] at this
        rcases this with rfl | this
        · have := ha.1 c hc; rw [ordC_self] at this; omega
        · exact this
      · intro hc
        have := (e c).2 (by simp [hc])
        simp only [List.mem_cons] at this
        rcases this with rfl | this
        · have := hb.1 c hc; rw [ordC_self] at this; omega
        · exact this
theorem dist_uniq {cs r s : List C} (h : IsDist cs r) (h' : IsDist cs s) : r = s := asc_uniq h.1 h'.1 fun c => (h.2 c).trans (h'.2 c).symm

/-- c behind out, unless it stands there already -/
def pushD (out : List C) (c : C) : List C := if out = [] ∨ ordC (out.getLastD C.zero) c ≠ 0 then out ++ [c] else out
theorem pushD_asc {out : List C} {c : C} (h : Asc out) (hc : ∀ o ∈ out, ordC o c ≤ 0) : Asc (pushD out c) ∧ (∀ d, d ∈ pushD out c ↔ d ∈ out ∨ d = c) := by
  rcases List.eq_nil_or_concat out with rfl | ⟨t, z, rfl⟩
  · simp [pushD, Asc]
  · have hz : (t.concat z).getLastD C.zero = z := by simp
    unfold pushD
    rw [hz]
    by_cases e : ordC z c = 0
    · obtain rfl := ordC_zero e
      rw [if_neg (by simp [e])]
      refine ⟨h, fun d => ⟨fun hd => .inl hd, fun hd => ?_⟩⟩
      rcases hd with hd | rfl
      · exact hd
      · simp
    · rw [if_pos (.inr e)]
      refine ⟨?_, fun d => by simp [or_assoc]⟩
      refine List.pairwise_append.2 ⟨h, by simp, fun a ha b hb => ?_⟩
      simp only [List.mem_singleton] at hb
      subst hb
      have hzc : ordC z b < 0 := by have := hc z (by simp); omega
      simp only [List.concat_eq_append, List.mem_append, List.mem_singleton] at ha
      rcases ha with ha | rfl
      · have h2 : ordC a z < 0 := by
          have := h
          unfold Asc at this
          rw [List.concat_eq_append] at this
          exact (List.pairwise_append.1 this).2.2 a ha z (by simp)
        exact ordC_trans h2 hzc
      · exact hzc

/-- out so far, what is left of x and y: all of it is no less -/
structure Mid (cs out x y : List C) : Prop where
  ao : Asc out
  ax : Asc x
  ay : Asc y
  ox : ∀ a ∈ out, ∀ b ∈ x, ordC a b ≤ 0
  oy : ∀ a ∈ out, ∀ b ∈ y, ordC a b ≤ 0
  mem : ∀ c, c ∈ cs ↔ c ∈ out ∨ c ∈ x ∨ c ∈ y
theorem Mid.left {cs out x y : List C} {a : C} (h : Mid cs out (a :: x) y) (ha : ∀ b ∈ y, ordC a b ≤ 0) : Mid cs (pushD out a) x y := by
  obtain ⟨p1, p2⟩ := pushD_asc h.ao (fun o ho => h.ox o ho a (by simp))
  have hx := List.pairwise_cons.1 h.ax
  refine ⟨p1, hx.2, h.ay, ?_, ?_, ?_⟩
  · intro c hc b hb
    rcases (p2 c).1 hc with hc | rfl
    · exact h.ox c hc b (by simp [hb])
    · have := hx.1 b hb; omega
  · intro c hc b hb
    rcases (p2 c).1 hc with hc | rfl
    · exact h.oy c hc b hb
    · exact ha b hb
  · intro c
    rw [h.mem c, p2 c]
    simp only [List.mem_cons]
    constructor
    · rintro (g | (g | g) | g)
      · exact .inl (.inl g)
      · exact .inl (.inr g)
      · exact .inr (.inl g)
      · exact .inr (.inr g)
    · rintro ((g | g) | g | g)
      · exact .inl g
      · exact .inr (.inl (.inl g))
      · exact .inr (.inl (.inr g))
      · exact .inr (.inr g)
theorem Mid.swap {cs out x y : List C} (h : Mid cs out x y) : Mid cs out y x :=
  ⟨h.ao, h.ay, h.ax, h.oy, h.ox, fun c => by rw [h.mem c]; constructor <;> (rintro (g | g | g) <;> simp [g])⟩
theorem Mid.done {cs out : List C} (h : Mid cs out [] []) : IsDist cs out := ⟨h.ao, fun c => by rw [h.mem c]; simp⟩
/-- two heads: the smaller one goes on -/
theorem asc_head {y : List C} {a b : C} (hy : Asc (b :: y)) (h : ordC a b ≤ 0) : ∀ c ∈ b :: y, ordC a c ≤ 0 := by
  intro c hc
  simp only [List.mem_cons] at hc
  rcases hc with rfl | hc
  · exact h
  · have := (List.pairwise_cons.1 hy).1 c hc
    have := ordC_le_lt h this; omega
theorem Mid.start {u v x y : List C} (hx : IsDist u x) (hy : IsDist v y) : Mid (u ++ v) [] x y :=
  ⟨List.Pairwise.nil, hx.1, hy.1, by simp, by simp, fun c => by simp [hx.2 c, hy.2 c]⟩

/-- of a list in order, each once -/
theorem fold_push {l : List C} (hl : l.Pairwise fun a b => ordC a b ≤ 0) : IsDist l (l.foldl pushD []) := by
  have key : ∀ (l out cs : List C), (l.Pairwise fun a b => ordC a b ≤ 0) → Asc out → (∀ a ∈ out, ∀ b ∈ l, ordC a b ≤ 0) → (∀ c, c ∈ cs ↔ c ∈ out ∨ c ∈ l) → IsDist cs (l.foldl pushD out) := by
    intro l
    induction l with
    | nil => intro out cs _ h2 _ h4; exact ⟨h2, fun c => by rw [h4 c]; simp⟩
    | cons a l ih =>
      intro out cs h1 h2 h3 h4
      have g := List.pairwise_cons.1 h1
      obtain ⟨p1, p2⟩ := pushD_asc h2 (fun o ho => h3 o ho a (by simp))
      refine ih (pushD out a) cs g.2 p1 ?_ ?_
      · intro c hc b hb
        rcases (p2 c).1 hc with hc | rfl
        · exact h3 c hc b (by simp [hb])
        · exact g.1 b hb
      · intro c
        rw [h4 c, p2 c]
        simp only [List.mem_cons]
        constructor
        · rintro (q | q | q)
          · exact .inl (.inl q)
          · exact .inl (.inr q)
          · exact .inr q
        · rintro ((q | q) | q)
          · exact .inl q
          · exact .inr (.inl q)
          · exact .inr (.inr q)
  exact key l [] l hl List.Pairwise.nil (by simp) (by simp)
theorem dist_perm {cs l r : List C} (h : IsDist l r) (hp : ∀ c, c ∈ l ↔ c ∈ cs) : IsDist cs r := ⟨h.1, fun c => (h.2 c).trans (hp c)⟩
end Go.Proofs.Ytjkmcdgjhfiklaa
