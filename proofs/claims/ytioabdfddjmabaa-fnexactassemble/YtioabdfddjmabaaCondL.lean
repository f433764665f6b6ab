/-
  CONTRACTS of the program's conditions: the other methods; one within another.
-/
import Derived.Test.YtioabdfddjmabaaCondJ
namespace Go.Proofs.Ytioabdfddjmabaa
open Go.RowKit
set_option linter.unusedVariables false

theorem shl_ones {n : Nat} (h : n ≤ 64) : IntKind.u64.wrap (18446744073709551615 * 2 ^ n) = ((inv (low n) : Nat) : Int) := by
  have h1 := low_succ n
  have h2 := low_le h
  have e : ((2 : Int) ^ n) = ((2 ^ n : Nat) : Int) := by simp
  rw [IntKind.wrap_u64, e]
  unfold inv
  omega

abbrev two (a b : Nat) : Value := .tuple #[.int .u64 (a : Int), .int .u64 (b : Int)]

theorem agree_lt {c : K} (h : c.ok) : agreeM c < 18446744073709551616 ∧ agreeV c < 18446744073709551616 := by
  unfold agreeM agreeV
  constructor
  · split
    · exact h.2.1
    · split
      · exact inv_lt _
      · omega
  · split
    · exact h.2.2
    · split
      · exact and_lt h.2.1
      · omega

/-- two cells -/
theorem cells2 {w w1 : World} {g : Nat} {x y : Value} (hb : Below w.heap.size w w1) (hg : g < w.heap.size) (h0 : w.cell? ⟨g, 0, none⟩ = some x) (h1 : w.cell? ⟨g, 1, none⟩ = some y) : w1.cell? ⟨g, 0, none⟩ = some x ∧ w1.cell? ⟨g, 1, none⟩ = some y :=
  ⟨(hb.cell (p := ⟨g, 0, none⟩) hg).trans h0, (hb.cell (p := ⟨g, 1, none⟩) hg).trans h1⟩

end Go.Proofs.Ytioabdfddjmabaa
