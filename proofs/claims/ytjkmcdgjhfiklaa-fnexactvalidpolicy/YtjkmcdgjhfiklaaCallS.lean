/-
  WHERE CALLS LIE: predicates.
-/
import Derived.Test.YtjkmcdgjhfiklaaCallM
namespace Go.Proofs.Ytjkmcdgjhfiklaa
open Go.RowKit
set_option linter.unusedVariables false

/-- calls at an address, each with its arguments where its third cell says -/
def CAt (w : World) (b o : Nat) (cs : List C) : Prop :=
  ∀ i, i < cs.length → w.cell? ⟨b, o + i * 3, none⟩ = some (.int .u32 (cs.getD i C.zero).arch) ∧ w.cell? ⟨b, o + i * 3 + 1, none⟩ = some (.int .u32 (cs.getD i C.zero).nr) ∧
    ∃ a cap, w.cell? ⟨b, o + i * 3 + 2, none⟩ = some (.slice a (cs.getD i C.zero).args.length cap) ∧ USrc w a (cs.getD i C.zero).args
/-- calls that came in, or were made: nil or empty, or at an address -/
def CSrc (w : World) (a : Option Addr) (cs : List C) : Prop := cs = [] ∨ ∃ b o, a = some ⟨b, o, none⟩ ∧ b < w.heap.size ∧ CAt w b o cs

theorem CAt.below {w w' : World} {b o : Nat} {cs : List C} (h : CAt w b o cs) (hlt : b < w.heap.size) (hb : Below w.heap.size w w') : CAt w' b o cs := by
  intro i hi
  obtain ⟨c0, c1, a, cap, c2, hs⟩ := h i hi
  exact ⟨(hb.cell (p := ⟨b, _, none⟩) hlt).trans c0, (hb.cell (p := ⟨b, _, none⟩) hlt).trans c1, a, cap, (hb.cell (p := ⟨b, _, none⟩) hlt).trans c2, hs.below hb⟩
theorem CSrc.below {w w' : World} {a : Option Addr} {cs : List C} (h : CSrc w a cs) (hb : Below w.heap.size w w') : CSrc w' a cs := by
  rcases h with h | ⟨b, o, ha, hlt, hc⟩
  · exact .inl h
  · exact .inr ⟨b, o, ha, Nat.lt_of_lt_of_le hlt hb.size, hc.below hlt hb⟩
end Go.Proofs.Ytjkmcdgjhfiklaa
