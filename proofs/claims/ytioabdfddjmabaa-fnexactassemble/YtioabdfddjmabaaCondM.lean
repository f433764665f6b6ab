/-
  CONTRACTS of the program's ConWithin.
-/
import Derived.Test.YtioabdfddjmabaaCondL
namespace Go.Proofs.Ytioabdfddjmabaa
open Go.RowKit
set_option linter.unusedVariables false

theorem below_step {w wa wb : World} (hb : Below wa.heap.size wa wb) (h : Below w.heap.size w wa) : Below w.heap.size w wb := h.trans (hb.mono h.size)

theorem cell_ltK {w : World} {a : Addr} {v : Value} (h : w.cell? a = some v) : a.block < w.heap.size := by
  by_cases hb : a.block < w.heap.size
  · exact hb
  · exfalso
    simp [World.cell?, Array.getElem?_eq_none (show w.heap.size ≤ a.block by omega)] at h
theorem cell_step {wa wb : World} (hb : Below wa.heap.size wa wb) {p : Addr} {v : Value} (h : wa.cell? p = some v) : wb.cell? p = some v := (hb.cell (cell_ltK h)).trans h


/-- the three numbers of one of two conditions -/
def OneOf (ck ca cb dk da db k a b : Int) : Prop := (k = ck ∧ a = ca ∧ b = cb) ∨ (k = dk ∧ a = da ∧ b = db)

end Go.Proofs.Ytioabdfddjmabaa
