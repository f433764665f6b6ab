/-
  EncodeProgram of whatever program: the model's and the program's answer the same bytes, in memory of their own.
-/
import Derived.Test.YtmljkhpkinplkabEnc2
namespace Go.Proofs.Ytmljkhpkinplkab
open Go.RowKit
set_option linter.unusedVariables false

set_option maxHeartbeats 1000000 in
theorem specEncode_none (a : Option Addr) (cap : Nat) (w : World) :
    Calls Try.prog 8 #[.slice a 0 cap] w fun e w' => ∃ v', e = .returned v' ∧ owns w' w.heap.size v' [] ∧ Below w.heap.size w w' := by
  go_enter Try.func8, Try.ntmps8
  go_wp2_with fail
  go_loopw [3, 4] (fun s i wr => s = .slice none 0 0 ∧ i = .int .i64 0 ∧ wr = w) (fun _ i _ => 0)
  case atStart => exact ⟨rfl, rfl, rfl⟩
  case round =>
    obtain ⟨rfl, rfl, rfl⟩ := hrel
    go_wp2
    go_ret
    exact ⟨_, rfl, World.ownsRow_nil _ _ _ _, Below.refl _ _⟩

set_option maxHeartbeats 1000000 in
theorem implEncode_none (a : Option Addr) (cap : Nat) (w : World) :
    Calls Try.prog 10 #[.slice a 0 cap] w fun e w' => ∃ v', e = .returned v' ∧ owns w' w.heap.size v' [] ∧ Below w.heap.size w w' := by
  obtain ⟨i0, hi, hz0, hz1, hz2⟩ := info_parts info5
  have hmk : ∀ u : World, (Instr.makeSlice 24 (.int .i64 0) (.int .i64 0)).run Try.prog u =
      .ok (.slice (some ⟨u.heap.size, 0, none⟩) 0 0) (u.alloc (.cells #[] 5)) := fun u => by
    have h := run_make (P := Try.prog) u 24 5 i0 (.int .u8 0) Try.underlying24 hi hz0 .i64 .i64 0 0 (by omega) (by omega) (by rw [hz2]; omega) (by omega)
    simpa [hz1, Value.cells, madeCells, Array.range_zero'] using h
  go_enter Try.func10, Try.ntmps10
  go_wp2_with fail
  go_loopw [3, 12] (fun s i wr => s = .slice (some ⟨w.heap.size, 0, none⟩) 0 0 ∧ i = .int .i64 0 ∧ wr = w.alloc (.cells #[] 5)) (fun _ i _ => 0)
  case atStart => exact ⟨rfl, rfl, rfl⟩
  case round =>
    obtain ⟨rfl, rfl, rfl⟩ := hrel
    go_wp2
    go_ret
    exact ⟨_, rfl, World.ownsRow_made w #[] 0 (Nat.le_refl _) (by unfold maxLen; omega) rfl, (Below.refl _ _).alloc (Nat.le_refl _) _⟩

theorem specEncode_any (a : Option Addr) (cap : Nat) (p : List I) (w : World) (hs : Src w a p) (hok : ∀ x ∈ p, x.ok) (hn : p.length ≤ 1048576) :
    Calls Try.prog 8 #[.slice a p.length cap] w fun e w' => ∃ v', e = .returned v' ∧ owns w' w.heap.size v' (encL p) ∧ Below w.heap.size w w' := by
  rcases hs with rfl | ⟨b, o, rfl, hb, hp⟩
  · exact specEncode_none a cap w
  · exact specEncode_some b o cap p w hb hp hok hn
theorem implEncode_any (a : Option Addr) (cap : Nat) (p : List I) (w : World) (hs : Src w a p) (hok : ∀ x ∈ p, x.ok) (hn : p.length ≤ 1048576) :
    Calls Try.prog 10 #[.slice a p.length cap] w fun e w' => ∃ v', e = .returned v' ∧ owns w' w.heap.size v' (encL p) ∧ Below w.heap.size w w' := by
  rcases hs with rfl | ⟨b, o, rfl, hb, hp⟩
  · exact implEncode_none a cap w
  · exact implEncode_some b o cap p w hb hp hok hn
end Go.Proofs.Ytmljkhpkinplkab
