/-
  CONTRACTS of the marks over slices of instructions.
-/
import Derived.Test.YtjfgihmamoiipaaCopy
import Derived.Test.YtjfgihmamoiipaaBytesM
namespace Go.Proofs.Ytjfgihmamoiipaa
open Go.RowKit
set_option linter.unusedVariables false

/-- the cell number m of the marks that begin at k -/
def markV (k : Int) (m : Nat) : Value :=
  if m % 4 = 0 then .int .u16 (IntKind.u16.wrap (k + m)) else if m % 4 = 3 then .int .u32 (k + m) else .int .u8 ((k + m) % 256)

def MarksI (w : World) (D N : Nat) (k : Int) (j : Nat) : Prop := ∃ f, w.rowIs D 36 N f ∧ ∀ i, i < j → f i = markV k i

theorem MarksI.set {w : World} {D N j : Nat} {k : Int} (h : MarksI w D N k j) (v : Value) (hv : v = markV k j) : MarksI (w.setCell ⟨D, j, none⟩ v) D N k (j + 1) := by
  obtain ⟨f, hr, hf⟩ := h
  refine ⟨_, hr.set _ _, fun i hi => ?_⟩
  by_cases e : i = j
  · rw [if_pos e, e, hv]
  · rw [if_neg e]; exact hf i (by omega)
theorem MarksI.own {w : World} {D N j : Nat} {k : Int} (h : MarksI w D N k j) (i : Nat) (hi : i < N) : ∃ v, w.cell? ⟨D, i, none⟩ = some v ∧ w.frozen? ⟨D, i, none⟩ = false := by
  obtain ⟨f, hr, _⟩ := h
  exact ⟨_, hr.cell hi, hr.frozen i⟩
theorem markV_0 (k : Int) (j : Nat) : markV k (j * 4) = .int .u16 (IntKind.u16.wrap (k + 4 * j)) := by
  unfold markV; rw [if_pos (by omega)]; congr 2; omega
theorem markV_1 (k : Int) (j : Nat) : markV k (j * 4 + 1) = .int .u8 ((k + 4 * j + 1) % 256) := by
  unfold markV; rw [if_neg (by omega), if_neg (by omega)]; congr 1; omega
theorem markV_2 (k : Int) (j : Nat) : markV k (j * 4 + 2) = .int .u8 ((k + 4 * j + 1 + 1) % 256) := by
  unfold markV; rw [if_neg (by omega), if_neg (by omega)]; congr 1; omega
theorem markV_3 (k : Int) (j : Nat) : markV k (j * 4 + 3) = .int .u32 (k + 4 * j + 1 + 1 + 1) := by
  unfold markV; rw [if_neg (by omega), if_pos (by omega)]; congr 1; omega

theorem MarksI.step {w : World} {D N j : Nat} {k : Int} (h : MarksI w D N k (j * 4)) :
    MarksI ((((w.setCell ⟨D, j * 4, none⟩ (.int .u16 (IntKind.u16.wrap (k + 4 * j)))).setCell ⟨D, j * 4 + 1, none⟩ (.int .u8 ((k + 4 * j + 1) % 256))).setCell ⟨D, j * 4 + 2, none⟩ (.int .u8 ((k + 4 * j + 1 + 1) % 256))).setCell ⟨D, j * 4 + 3, none⟩ (.int .u32 (k + 4 * j + 1 + 1 + 1))) D N k ((j + 1) * 4) := by
  have h4 := (((h.set _ (markV_0 k j).symm).set _ (markV_1 k j).symm).set _ (markV_2 k j).symm).set _ (markV_3 k j).symm
  rw [show (j + 1) * 4 = j * 4 + 3 + 1 by omega]
  exact h4

set_option maxHeartbeats 2000000 in
theorem markInsS_some (D n cap N : Nat) (k : Int) (w : World) (hM : MarksI w D N k 0) (hN : n * 4 ≤ N) (hn : n ≤ 1048576) (h0 : 0 ≤ k) (h1 : k ≤ 16777216) :
    Calls Try.prog 25 #[.slice (some ⟨D, 0, none⟩) n cap, .int .i64 k] w fun e w' => e = .returned (.int .i64 (k + 4 * n)) ∧ MarksI w' D N k (n * 4) ∧ w.grownBy w' (some D) := by
  go_enter Try.func25, Try.ntmps25
  go_wp2_with fail
  go_loopw [1, 5] (fun q i wr => ∃ j : Nat, j ≤ n ∧ i = .int .i64 j ∧ q = .int .i64 (k + 4 * j) ∧ MarksI wr D N k (j * 4) ∧ w.grownBy wr (some D)) (fun _ i _ => n - (intOf i).toNat)
  case atStart => exact ⟨0, by omega, rfl, by go_num, by simpa using hM, World.grownBy.refl _ _⟩
  case round =>
    obtain ⟨j, hj, rfl, rfl, hM', hG⟩ := hrel
    clear hM
    by_cases hlt : j < n
    · obtain ⟨v0, e0, f0⟩ := hM'.own (j * 4) (by omega)
      obtain ⟨v1, e1, f1⟩ := hM'.own (j * 4 + 1) (by omega)
      obtain ⟨v2, e2, f2⟩ := hM'.own (j * 4 + 2) (by omega)
      obtain ⟨v3, e3, f3⟩ := hM'.own (j * 4 + 3) (by omega)
      go_wp2
      go_roundw
      case rel => exact ⟨j + 1, by omega, by go_num, by go_num, hM'.step, grown_setCell (grown_setCell (grown_setCell (grown_setCell hG _ _) _ _) _ _) _ _⟩
      case measure => simp [intOf]; omega
    · go_wp2
      go_ret
      have hjn : j = n := by omega
      subst hjn
      exact ⟨rfl, hM', hG⟩

set_option maxHeartbeats 2000000 in
theorem heldInsS_some (D n cap N : Nat) (k : Int) (w : World) (hM : MarksI w D N k (n * 4)) (hN : n * 4 ≤ N) (hn : n ≤ 1048576) (h0 : 0 ≤ k) (h1 : k ≤ 16777216) :
    Calls Try.prog 29 #[.slice (some ⟨D, 0, none⟩) n cap, .int .i64 k] w fun e w' => e = .returned (.int .i64 (k + 4 * n)) ∧ w' = w := by
  obtain ⟨f, hr, hf⟩ := hM
  have hc : ∀ i, i < n * 4 → w.cell? ⟨D, i, none⟩ = some (markV k i) := fun i hi => by rw [hr.cell (by omega), hf i hi]
  clear hr hf
  go_enter Try.func29, Try.ntmps29
  go_wp2_with fail
  go_loop [1, 5] (fun q i => ∃ j : Nat, j ≤ n ∧ i = .int .i64 j ∧ q = .int .i64 (k + 4 * j)) (fun _ i => n - (intOf i).toNat)
  case atStart => exact ⟨0, by omega, rfl, by go_num⟩
  case round =>
    obtain ⟨j, hj, rfl, rfl⟩ := hrel
    by_cases hlt : j < n
    · have c0 := hc (j * 4) (by omega)
      have c1 := hc (j * 4 + 1) (by omega)
      have c2 := hc (j * 4 + 2) (by omega)
      have c3 := hc (j * 4 + 3) (by omega)
      rw [markV_0] at c0
      rw [markV_1] at c1
      rw [markV_2] at c2
      rw [markV_3] at c3
      clear hc
      go_wp2
      go_round
      case rel => exact ⟨j + 1, by omega, by go_num, by go_num⟩
      case measure => simp [intOf]; omega
    · go_wp2
      go_ret
      have hjn : j = n := by omega
      subst hjn
      exact ⟨rfl, rfl⟩
end Go.Proofs.Ytjfgihmamoiipaa
