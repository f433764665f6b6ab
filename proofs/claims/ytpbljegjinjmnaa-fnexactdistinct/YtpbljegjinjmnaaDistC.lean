/-
  PLAIN MATHEMATICS of leaving out what equals the one before it. No Go in sight.
-/
import Derived.Test.YtpbljegjinjmnaaMathO
namespace Go.Proofs.Ytpbljegjinjmnaa
set_option linter.unusedVariables false

/-- what is kept of the first k -/
def comp (l : List C) (k : Nat) : List C := (l.take k).foldl pushD []

theorem comp_succ {l : List C} {k : Nat} (h : k < l.length) : comp l (k + 1) = pushD (comp l k) (l.getD k C.zero) := by
  have e : l.take (k + 1) = l.take k ++ [l.getD k C.zero] := by
    rw [List.take_add_one, List.getElem?_eq_getElem h, List.getD_eq_getElem?_getD, List.getElem?_eq_getElem h]; rfl
  rw [comp, e, List.foldl_append]; rfl
theorem pushD_last (out : List C) (c : C) : pushD out c ≠ [] ∧ (pushD out c).getLastD C.zero = c := by
  unfold pushD
  split
  · exact ⟨by simp, by simp⟩
  · rename_i h
    have h1 : out ≠ [] := fun e => h (.inl e)
    have h2 : ordC (out.getLastD C.zero) c = 0 := by
      by_cases h3 : ordC (out.getLastD C.zero) c = 0
      · exact h3
      · exact absurd (.inr h3) h
    exact ⟨h1, ordC_zero h2⟩
theorem comp_last {l : List C} {k : Nat} (h0 : 0 < k) (h : k ≤ l.length) : comp l k ≠ [] ∧ (comp l k).getLastD C.zero = l.getD (k - 1) C.zero := by
  obtain ⟨j, rfl⟩ : ∃ j, k = j + 1 := ⟨k - 1, by omega⟩
  rw [comp_succ (by omega)]
  exact pushD_last _ _
theorem comp_zero (l : List C) : comp l 0 = [] := rfl
theorem comp_one {l : List C} (h : 0 < l.length) : comp l 1 = [l.getD 0 C.zero] := by
  rw [comp_succ h, comp_zero, pushD, if_pos (.inl rfl)]; rfl
theorem comp_same {l : List C} {k : Nat} (h0 : 0 < k) (h : k < l.length) (he : ordC (l.getD k C.zero) (l.getD (k - 1) C.zero) = 0) : comp l (k + 1) = comp l k := by
  obtain ⟨h1, h2⟩ := comp_last h0 (Nat.le_of_lt h)
  rw [comp_succ h, pushD, if_neg]
  rintro (h3 | h3)
  · exact h1 h3
  · apply h3
    rw [h2, ordC_anti, he]; rfl
theorem comp_diff {l : List C} {k : Nat} (h0 : 0 < k) (h : k < l.length) (he : ordC (l.getD k C.zero) (l.getD (k - 1) C.zero) ≠ 0) : comp l (k + 1) = comp l k ++ [l.getD k C.zero] := by
  obtain ⟨h1, h2⟩ := comp_last h0 (Nat.le_of_lt h)
  rw [comp_succ h, pushD, if_pos]
  right
  rw [h2, ordC_anti]
  omega
theorem comp_len (l : List C) (k : Nat) (h : k ≤ l.length) : (comp l k).length ≤ k := by
  induction k with
  | zero => simp [comp_zero]
  | succ k ih =>
    have := ih (by omega)
    rw [comp_succ (by omega), pushD]
    split
    · simp; omega
    · omega
theorem comp_all {l : List C} {k : Nat} (h : k ≤ l.length) (hd : ∀ j, 0 < j → j < k → ordC (l.getD j C.zero) (l.getD (j - 1) C.zero) ≠ 0) : comp l k = l.take k := by
  induction k with
  | zero => simp [comp_zero]
  | succ k ih =>
    have e : l.take (k + 1) = l.take k ++ [l.getD k C.zero] := by
      rw [List.take_add_one, List.getElem?_eq_getElem (by omega), List.getD_eq_getElem?_getD, List.getElem?_eq_getElem (by omega)]; rfl
    by_cases h0 : k = 0
    · subst h0
      rw [comp_one (by omega), e]; simp
    · rw [comp_diff (by omega) (by omega) (hd k (by omega) (by omega)), ih (by omega) (fun j hj hjk => hd j hj (by omega)), e]
theorem comp_dist {l : List C} (hl : l.Pairwise fun a b => ordC a b ≤ 0) : IsDist l (comp l l.length) := by
  rw [comp, List.take_length]; exact fold_push hl
end Go.Proofs.Ytpbljegjinjmnaa
