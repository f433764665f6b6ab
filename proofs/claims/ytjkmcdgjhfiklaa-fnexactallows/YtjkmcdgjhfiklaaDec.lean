/-
  CONTRACTS of the small functions of DecodeProgram.
-/
import Derived.Test.YtjkmcdgjhfiklaaEnc
import Derived.Test.YtjkmcdgjhfiklaaMathD
import Derived.Test.YtjkmcdgjhfiklaaCopy
import Derived.WalkLawsBesides
import Derived.Deep.RegionHeld3
import Derived.Deep.AppendLies
namespace Go.Proofs.Ytjkmcdgjhfiklaa
open Go.RowKit
set_option linter.unusedVariables false

/-- an own row of bytes, laid by make and written cell by cell -/
def UptoB (w : World) (D n : Nat) (l : List Int) (k : Nat) : Prop := ∃ f, w.rowIs D 5 n f ∧ ∀ j, j < k → f j = .int .u8 (l.getD j 0)

theorem UptoB.step {w : World} {D n k : Nat} {l : List Int} (h : UptoB w D n l k) : UptoB (w.setCell ⟨D, k, none⟩ (.int .u8 (l.getD k 0))) D n l (k + 1) := by
  obtain ⟨f, hr, hf⟩ := h
  refine ⟨_, hr.set _ _, fun j hj => ?_⟩
  by_cases e : j = k
  · rw [if_pos e, e]
  · rw [if_neg e]; exact hf j (by omega)

theorem UptoB.own {w : World} {D n k : Nat} {l : List Int} (h : UptoB w D n l k) (j : Nat) (hj : j < n) : ∃ v, w.cell? ⟨D, j, none⟩ = some v ∧ w.frozen? ⟨D, j, none⟩ = false := by
  obtain ⟨f, hr, _⟩ := h
  exact ⟨_, hr.cell hj, hr.frozen j⟩

theorem UptoB.owns {w : World} {D : Nat} {l : List Int} (h : UptoB w D l.length l l.length) (hm : l.length ≤ maxLen) : owns w D (.slice (some ⟨D, 0, none⟩) l.length l.length) l := by
  obtain ⟨f, ⟨c, hc, hs, hcf⟩, hf⟩ := h
  refine ⟨by simp, .inr ⟨D, l.length, c, rfl, Nat.le_refl _, hc, Nat.le_refl _, hm, by omega, ?_⟩⟩
  apply List.ext_getElem?
  intro i
  by_cases hi : i < l.length
  · rw [List.getElem?_take, if_pos (by omega), Array.getElem?_toList, hcf i hi, hf i hi, List.getElem?_map, List.getElem?_eq_getElem hi, List.getD_eq_getElem?_getD, List.getElem?_eq_getElem hi]; rfl
  · rw [List.getElem?_take, if_neg (by omega), List.getElem?_map, List.getElem?_eq_none (by omega)]; rfl

end Go.Proofs.Ytjkmcdgjhfiklaa
