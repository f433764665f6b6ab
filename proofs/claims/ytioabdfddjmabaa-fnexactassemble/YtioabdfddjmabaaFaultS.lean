/-
  CONTRACTS of the model's own functions that reckon one instruction's fault.
-/
import Derived.Test.YtioabdfddjmabaaFault
namespace Go.Proofs.Ytioabdfddjmabaa
open Go.RowKit
set_option linter.unusedVariables false

set_option maxRecDepth 100000 in
theorem l1codes_any (w : World) :
    Calls Try.prog 38 #[] w fun e w' => e = .returned (.slice (some ⟨w.heap.size, 0, none⟩) 39 39) ∧ w' = w.alloc (.cells (codesL.map (Value.int .i64)).toArray 3) := by
  go_enter Try.func38, Try.ntmps38
  go_wp2
  go_ret
  exact ⟨rfl, rfl⟩

theorem codes_cell (w : World) (k : Nat) (h : k < 39) : (w.alloc (.cells (codesL.map (Value.int .i64)).toArray 3)).cell? ⟨w.heap.size, k, none⟩ = some (.int .i64 (codesL.getD k 0)) := by
  have hl : codesL.length = 39 := rfl
  rw [World.cell?_alloc_at _ _ _ _ rfl]
  simp [List.getElem?_eq_getElem (show k < codesL.length by omega)]

theorem known_hit {c : Int} {k : Nat} (h : k < 39) (e : codesL[k]?.getD 0 = c) : knownB c = true := by
  have hl : k < codesL.length := h
  rw [List.getElem?_eq_getElem hl] at e
  simp only [knownB, List.contains_iff_mem]
  rw [← e]
  exact List.getElem_mem hl
theorem known_end {c : Int} (h : ∀ j, j < 39 → codesL[j]?.getD 0 ≠ c) : knownB c = false := by
  cases hk : knownB c with
  | false => rfl
  | true =>
    have hm : c ∈ codesL := by simpa [knownB] using hk
    obtain ⟨j, hj, e⟩ := List.getElem_of_mem hm
    exact absurd (by rw [List.getElem?_eq_getElem hj]; exact e) (h j hj)

set_option maxHeartbeats 400000 in
theorem l1known_any (c : Int) (w : World) :
    Calls Try.prog 31 #[.int .i64 c] w fun e w' => e = .returned (.bool (knownB c)) ∧ Below w.heap.size w w' := by
  have hc0 := codes_cell w
  go_enter Try.func31, Try.ntmps31
  go_wp2_with (go_at_call 38; refine (l1codes_any _).mono ?_; rintro e w' ⟨rfl, rfl⟩)
  generalize hW : w.alloc (.cells (codesL.map (Value.int .i64)).toArray 3) = W at hc0 ⊢
  have hB : Below w.heap.size w W := by rw [← hW]; exact (Below.refl _ _).alloc (Nat.le_refl _) _
  clear hW
  go_loop [4] (fun i => ∃ k : Nat, k ≤ 39 ∧ i = .int .i64 k ∧ Hid (∀ j, j < k → codesL[j]?.getD 0 ≠ c)) (fun i => 39 - (intOf i).toNat)
  case atStart => exact ⟨0, by omega, rfl, fun j hj => by omega⟩
  case round =>
    obtain ⟨k, hk, rfl, H⟩ := hrel
    by_cases hlt : k < 39
    · have hcell := hc0 k hlt
      clear hc0
      go_wp2
      · go_ret
        have he : (codesL[k]?.getD 0 == c) = true := by assumption
        exact ⟨ret_bool (known_hit hlt (by simpa using he)).symm, hB⟩
      · have he : (codesL[k]?.getD 0 == c) = false := by assumption
        go_round
        case rel =>
          refine ⟨k + 1, by omega, by go_num, fun j hj => ?_⟩
          by_cases e : j = k
          · subst e; simpa using he
          · exact H.out j (by omega)
        case measure => simp [intOf]; omega
    · go_wp2
      go_ret
      exact ⟨ret_bool (known_end (fun j hj => H.out j (by omega))).symm, hB⟩

set_option maxHeartbeats 400000 in
theorem l1isTest_any (c : Int) (w : World) (h0 : 0 ≤ c) :
    Calls Try.prog 32 #[.int .i64 c] w fun e w' => e = .returned (.bool (tstB c)) ∧ Below w.heap.size w w' := by
  rw [← tstB_eq]
  go_enter Try.func32, Try.ntmps32
  go_wp2_with (go_at_call 31; refine (l1known_any _ _).mono ?_; rintro e w1 ⟨rfl, hb⟩)
  all_goals (go_ret)
  all_goals exact ⟨ret_bool (by simp [*]), by assumption⟩

end Go.Proofs.Ytioabdfddjmabaa
