/-
  CONTRACT of the model's DecodeProgram.
-/
import Derived.Test.YtioabdfddjmabaaDecP
namespace Go.Proofs.Ytioabdfddjmabaa
open Go.RowKit
set_option linter.unusedVariables false

/-- the eight bytes of one instruction -/
def Eight (b o K : Nat) (x0 x1 x2 x3 x4 x5 x6 x7 : Int) (w : World) : Prop :=
  w.cell? ⟨b, o + K, none⟩ = some (.int .u8 x0) ∧ w.cell? ⟨b, o + K + 1, none⟩ = some (.int .u8 x1) ∧ w.cell? ⟨b, o + (K + 2), none⟩ = some (.int .u8 x2) ∧ w.cell? ⟨b, o + (K + 3), none⟩ = some (.int .u8 x3) ∧
  w.cell? ⟨b, o + (K + 4), none⟩ = some (.int .u8 x4) ∧ w.cell? ⟨b, o + (K + 4) + 1, none⟩ = some (.int .u8 x5) ∧ w.cell? ⟨b, o + (K + 4) + 2, none⟩ = some (.int .u8 x6) ∧ w.cell? ⟨b, o + (K + 4) + 3, none⟩ = some (.int .u8 x7)

end Go.Proofs.Ytioabdfddjmabaa
