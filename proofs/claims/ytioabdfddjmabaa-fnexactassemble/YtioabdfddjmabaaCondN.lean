/-
  CONTRACTS of the model's normal condition.
-/
import Derived.Test.YtioabdfddjmabaaCondT
namespace Go.Proofs.Ytioabdfddjmabaa
open Go.RowKit
set_option linter.unusedVariables false

/-- a store of three cells into a box -/
theorem BoxK.set3 {w : World} {g : Nat} {x y z : Value} (h : BoxK w g x y z) (x' y' z' : Value) : BoxK (((w.setCell ⟨g, 0, none⟩ x').setCell ⟨g, 1, none⟩ y').setCell ⟨g, 2, none⟩ z') g x' y' z' := by
  obtain ⟨l, c0, c1, c2, f0, f1, f2⟩ := h
  refine ⟨by simp [l], ?_, ?_, ?_, by simp [f0], by simp [f1], by simp [f2]⟩
  · simp [go_sem, c0]
  · simp [go_sem, c1]
  · simp [go_sem, c2]
theorem below_set3 {n : Nat} {w w' : World} {g : Nat} (h : Below n w w') (hg : n ≤ g) (x' y' z' : Value) : Below n w (((w'.setCell ⟨g, 0, none⟩ x').setCell ⟨g, 1, none⟩ y').setCell ⟨g, 2, none⟩ z') :=
  ((h.setCell hg _).setCell hg _).setCell hg _

end Go.Proofs.Ytioabdfddjmabaa
