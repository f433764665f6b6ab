/-
  CONTRACTS of the functions that reckon one instruction's fault, in the program and in the model.
-/
import Derived.Test.YtjfgihmamoiipaaLeaf
import Derived.Deep.QuietTactic
import Derived.BigQuiet
namespace Go.Proofs.Ytjfgihmamoiipaa
open Go.RowKit
set_option linter.unusedVariables false

set_option maxHeartbeats 400000 in
theorem usesMemory_any (c : Int) (w : World) :
    Calls Try.prog 88 #[.int .u16 c] w fun e w' => e = .returned (.bool (memB c)) ∧ w' = w := by
  go_enter Try.func88, Try.ntmps88
  go_wp2
  all_goals (go_ret)
  all_goals exact ⟨ret_bool (by simp [memB, *]), rfl⟩

set_option maxHeartbeats 400000 in
theorem isTest_any (c : Int) (w : World) :
    Calls Try.prog 108 #[.int .u16 c] w fun e w' => e = .returned (.bool (tstB c)) ∧ w' = w := by
  go_enter Try.func108, Try.ntmps108
  go_wp2
  all_goals (go_ret)
  all_goals exact ⟨ret_bool (by simp [tstB, *]), rfl⟩

set_option maxHeartbeats 1000000 in
theorem isArithmetic_any (c : Int) (w : World) :
    Calls Try.prog 107 #[.int .u16 c] w fun e w' => e = .returned (.bool (ariB c)) ∧ w' = w := by
  go_enter Try.func107, Try.ntmps107
  go_wp2
  all_goals (go_ret)
  all_goals exact ⟨ret_bool (by simp [ariB, *]), rfl⟩
set_option maxHeartbeats 1000000 in
theorem isKnown_any (c : Int) (w : World) :
    Calls Try.prog 87 #[.int .u16 c] w fun e w' => e = .returned (.bool (isKnownB c)) ∧ w' = w := by
  go_enter Try.func87, Try.ntmps87
  go_wp2_with (first | (go_at_call 88; refine (usesMemory_any _ _).mono ?_; rintro e w' ⟨rfl, rfl⟩) | (go_at_call 107; refine (isArithmetic_any _ _).mono ?_; rintro e w' ⟨rfl, rfl⟩) | (go_at_call 108; refine (isTest_any _ _).mono ?_; rintro e w' ⟨rfl, rfl⟩))
  all_goals (go_ret)
  all_goals exact ⟨ret_bool (by simp [isKnownB, *]), rfl⟩

set_option maxHeartbeats 1000000 in
theorem hasBadOperand_any (c jt jf k : Int) (w : World) :
    Calls Try.prog 90 #[insV c jt jf k] w fun e w' => e = .returned (.bool (badB c k)) ∧ Below w.heap.size w w' := by
  go_enter Try.func90, Try.ntmps90
  go_wp2
  all_goals (go_ret)
  all_goals refine ⟨ret_bool ?_, (Below.refl _ _).alloc (Nat.le_refl _) _⟩
  all_goals simp_all [badB]

set_option maxHeartbeats 1000000 in
theorem jumpsOver_any (c jt jf k after : Int) (w : World) (h1 : 0 ≤ jt) (h2 : jt ≤ 255) (h3 : 0 ≤ jf) (h4 : jf ≤ 255) :
    Calls Try.prog 89 #[insV c jt jf k, .int .u32 after] w fun e w' => e = .returned (.bool (jumpB c jt jf k after)) ∧ Below w.heap.size w w' := by
  go_enter Try.func89, Try.ntmps89
  go_wp2_with (go_at_call 108; refine (isTest_any _ _).mono ?_; rintro e w' ⟨rfl, rfl⟩)
  all_goals (go_ret)
  all_goals refine ⟨ret_bool ?_, (Below.refl _ _).alloc (Nat.le_refl _) _⟩
  all_goals simp_all [jumpB]

set_option maxHeartbeats 4000000 in
theorem faultOf_any (c jt jf k after : Int) (w : World) (h1 : 0 ≤ jt) (h2 : jt ≤ 255) (h3 : 0 ≤ jf) (h4 : jf ≤ 255) (h5 : 0 ≤ k) (h6 : 0 ≤ after) (h7 : after ≤ 4096) :
    Calls Try.prog 55 #[insV c jt jf k, .int .i64 after] w fun e w' => e = .returned (.int .i64 (faultI c jt jf k after)) ∧ Below w.heap.size w w' := by
  go_enter Try.func55, Try.ntmps55
  go_wp2_with (first | (go_at_call 88; refine (usesMemory_any _ _).mono ?_; rintro e w' ⟨rfl, rfl⟩) | (go_at_call 87; refine (isKnown_any _ _).mono ?_; rintro e w' ⟨rfl, rfl⟩) | (go_at_call 89; refine (jumpsOver_any _ _ _ _ _ _ (by omega) (by omega) (by omega) (by omega)).mono ?_; rintro e w1 ⟨rfl, hb1⟩; have hc1 := (bcell hb1).1; have hz1 : w.heap.size < w1.heap.size := (by have := hb1.size; simp at this; omega)) | (go_at_call 90; refine (hasBadOperand_any _ _ _ _ _).mono ?_; rintro e w2 ⟨rfl, hb2⟩; have hc2 := (bcell hb2).1))
  all_goals (go_ret)
  all_goals refine ⟨ret_int ?_, ?_⟩
  all_goals first
    | exact (Below.refl _ _).alloc (Nat.le_refl _) _
    | exact ((Below.refl _ _).alloc (Nat.le_refl _) _).trans (Below.mono (by assumption) (by simp))
    | exact (((Below.refl _ _).alloc (Nat.le_refl _) _).trans (Below.mono (by assumption) (by simp))).trans (Below.mono (by assumption) (by omega))
    | (simp_all [faultI]; done)

end Go.Proofs.Ytjfgihmamoiipaa
