/-
  CONTRACTS of drawing conditions, second part.
-/
import Derived.Test.YtjkmcdgjhfiklaaDrawK
namespace Go.Proofs.Ytjkmcdgjhfiklaa
open Go.RowKit
set_option linter.unusedVariables false

set_option maxRecDepth 100000 in
set_option maxHeartbeats 4000000 in
theorem blockCon_dr (R : Nat) (w : World) (h : Rdr w R) : Calls Try.prog 43 #[.pointer (some ⟨R, 0, none⟩)] w (DrK w R) := by
  have HN : Hid (∀ w, Rdr w R → Calls Try.prog 41 #[.pointer (some ⟨R, 0, none⟩)] w fun e w' => ∃ c : Int, 0 ≤ c ∧ c ≤ 255 ∧ e = .returned (.int .i64 c) ∧ Dr w R w') := fun w h => next_dr R w h
  have HA : Hid (∀ w, Rdr w R → Calls Try.prog 72 #[.pointer (some ⟨R, 0, none⟩)] w (DrU w R)) := fun w h => arg_dr R w h
  have HL : Hid (∀ x w, 0 ≤ x → x ≤ 64 → Calls Try.prog 45 #[.int .i64 x] w fun e w' => ∃ y : Int, isU y ∧ e = .returned (.int .u64 y) ∧ w' = w) := fun x w h0 h1 => low_dr x w h0 h1
  have hRG : R < w.heap.size := h.lt
  have D := DrB.new h
  clear h
  go_enter Try.func43, Try.ntmps43
  go_wp2_with fail
  refine (HN.out _ D.rd).mono ?_
  rintro _ w1 ⟨c, c0, c1, rfl, d⟩
  replace D := D.step hRG d
  clear d
  go_wp2_with fail
  refine (HL.out _ _ (by omega) (by omega)).mono ?_
  rintro _ w2 ⟨y, hy, rfl, rfl⟩
  go_wp2_with fail
  refine (HA.out _ D.rd).mono ?_
  rintro _ w3 ⟨x, hx, rfl, d⟩
  replace D := D.step hRG d
  clear d hx
  go_wp2_with fail
  have hA := isU_bits .andNot x y
  have hB := isU_bits .or (bits .andNot .u64 x y) y
  generalize bits .or .u64 (bits .andNot .u64 x y) y = B at *
  generalize bits .andNot .u64 x y = A at *
  clear hy
  refine (HN.out _ D.rd).mono ?_
  rintro _ w4 ⟨q, q0, q1, rfl, d⟩
  replace D := D.step hRG d
  clear d
  obtain ⟨yl, y0, y1, y2, g0, g1, g2⟩ := D.bx
  obtain ⟨A0, A1⟩ := hA
  obtain ⟨B0, B1⟩ := hB
  have q60 : 0 ≤ q % 6 := by omega
  have q61 : q % 6 ≤ 5 := by omega
  by_cases d1 : q % 6 = 1
  · have e1 : (q % 6 == 1) = true := by rw [beq_iff_eq]; omega
    have e2 : (q % 6 == 2) = false := by rw [beq_eq_false_iff_ne]; omega
    have e3 : (q % 6 == 3) = false := by rw [beq_eq_false_iff_ne]; omega
    clear d1
    by_cases g : A < B
    · go_wp2
      exact bodyPost_ret (results_box Try.results43 rfl (D.bx.set3 _ _ _)) rfl (DrK.mk (by omega) (by unfold isU; omega) (by unfold isU; omega) (D.done hRG (Nat.le_refl _) _ _ _))
    · go_wp2
      exact bodyPost_ret (results_box Try.results43 rfl (D.bx.set3 _ _ _)) rfl (DrK.mk (by omega) (by unfold isU; omega) (by unfold isU; omega) (D.done hRG (Nat.le_refl _) _ _ _))
  by_cases d2 : q % 6 = 2
  · have e1 : (q % 6 == 1) = false := by rw [beq_eq_false_iff_ne]; omega
    have e2 : (q % 6 == 2) = true := by rw [beq_iff_eq]; omega
    have e3 : (q % 6 == 3) = false := by rw [beq_eq_false_iff_ne]; omega
    clear d2
    by_cases g : A < B
    · go_wp2
      exact bodyPost_ret (results_box Try.results43 rfl (D.bx.set3 _ _ _)) rfl (DrK.mk (by omega) (by unfold isU; omega) (by unfold isU; omega) (D.done hRG (Nat.le_refl _) _ _ _))
    · go_wp2
      exact bodyPost_ret (results_box Try.results43 rfl (D.bx.set3 _ _ _)) rfl (DrK.mk (by omega) (by unfold isU; omega) (by unfold isU; omega) (D.done hRG (Nat.le_refl _) _ _ _))
  by_cases d3 : q % 6 = 3
  · have e1 : (q % 6 == 1) = false := by rw [beq_eq_false_iff_ne]; omega
    have e2 : (q % 6 == 2) = false := by rw [beq_eq_false_iff_ne]; omega
    have e3 : (q % 6 == 3) = true := by rw [beq_iff_eq]; omega
    clear d3
    by_cases g : B < 18446744073709551615
    · go_wp2
      exact bodyPost_ret (results_box Try.results43 rfl (D.bx.set3 _ _ _)) rfl (DrK.mk (by omega) (by unfold isU; omega) (by unfold isU; omega) (D.done hRG (Nat.le_refl _) _ _ _))
    · go_wp2
      exact bodyPost_ret (results_box Try.results43 rfl (D.bx.set3 _ _ _)) rfl (DrK.mk (by omega) (by unfold isU; omega) (by unfold isU; omega) (D.done hRG (Nat.le_refl _) _ _ _))
  have e1 : (q % 6 == 1) = false := by rw [beq_eq_false_iff_ne]; omega
  have e2 : (q % 6 == 2) = false := by rw [beq_eq_false_iff_ne]; omega
  have e3 : (q % 6 == 3) = false := by rw [beq_eq_false_iff_ne]; omega
  clear d1 d2 d3
  go_wp2
  exact bodyPost_ret (results_box Try.results43 rfl (D.bx.set3 _ _ _)) rfl (DrK.mk (by omega) (by unfold isU; omega) (by unfold isU; omega) (D.done hRG (Nat.le_refl _) _ _ _))
end Go.Proofs.Ytjkmcdgjhfiklaa
