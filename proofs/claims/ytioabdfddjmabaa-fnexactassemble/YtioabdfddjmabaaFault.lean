/-
  CONTRACTS of the functions that reckon one instruction's fault, in the program and in the model.
-/
import Derived.Test.YtioabdfddjmabaaLeaf
import Derived.Deep.QuietTactic
import Derived.BigQuiet
namespace Go.Proofs.Ytioabdfddjmabaa
open Go.RowKit
set_option linter.unusedVariables false

set_option maxHeartbeats 400000 in
theorem usesMemory_any (c : Int) (w : World) :
    Calls Try.prog 33 #[.int .u16 c] w fun e w' => e = .returned (.bool (memB c)) ∧ w' = w := by
  go_enter Try.func33, Try.ntmps33
  go_wp2
  all_goals (go_ret)
  all_goals exact ⟨ret_bool (by simp [memB, *]), rfl⟩

set_option maxHeartbeats 400000 in
theorem isTest_any (c : Int) (w : World) :
    Calls Try.prog 27 #[.int .u16 c] w fun e w' => e = .returned (.bool (tstB c)) ∧ w' = w := by
  go_enter Try.func27, Try.ntmps27
  go_wp2
  all_goals (go_ret)
  all_goals exact ⟨ret_bool (by simp [tstB, *]), rfl⟩

set_option maxHeartbeats 1000000 in
theorem isArithmetic_any (c : Int) (w : World) :
    Calls Try.prog 34 #[.int .u16 c] w fun e w' => e = .returned (.bool (ariB c)) ∧ w' = w := by
  go_enter Try.func34, Try.ntmps34
  go_wp2
  all_goals (go_ret)
  all_goals exact ⟨ret_bool (by simp [ariB, *]), rfl⟩
set_option maxHeartbeats 1000000 in
theorem isKnown_any (c : Int) (w : World) :
    Calls Try.prog 26 #[.int .u16 c] w fun e w' => e = .returned (.bool (isKnownB c)) ∧ w' = w := by
  go_enter Try.func26, Try.ntmps26
  go_wp2_with (first | (go_at_call 33; refine (usesMemory_any _ _).mono ?_; rintro e w' ⟨rfl, rfl⟩) | (go_at_call 34; refine (isArithmetic_any _ _).mono ?_; rintro e w' ⟨rfl, rfl⟩) | (go_at_call 27; refine (isTest_any _ _).mono ?_; rintro e w' ⟨rfl, rfl⟩))
  all_goals (go_ret)
  all_goals exact ⟨ret_bool (by simp [isKnownB, *]), rfl⟩

end Go.Proofs.Ytioabdfddjmabaa
