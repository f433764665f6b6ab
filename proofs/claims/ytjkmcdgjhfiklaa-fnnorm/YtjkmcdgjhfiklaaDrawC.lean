/-
  CONTRACTS of drawing conditions: the spoilt one; block and normal condition of whatever condition.
-/
import Derived.Test.YtjkmcdgjhfiklaaDrawB
namespace Go.Proofs.Ytjkmcdgjhfiklaa
open Go.RowKit
set_option linter.unusedVariables false

theorem DrB.setO {w w1 : World} {R G C i : Nat} (h : DrB w R G w1) (hR : R < C) (hC : w.heap.size ≤ C) (hne : C ≠ G) (v : Value) : DrB w R G (w1.setCell ⟨C, i, none⟩ v) :=
  ⟨h.rd.own (rb_set (World.grownBy.refl _ _) i v) hR (fun k hk => by simp at hk; omega), rb_own h.gr (rb_set (World.grownBy.refl _ _) i v) (fun k hk => by simp at hk; omega),
    h.bx.grown (rb_set (World.grownBy.refl _ _) i v) (by simp; omega)⟩

set_option maxRecDepth 100000 in
set_option maxHeartbeats 4000000 in
theorem spoil_dr (R : Nat) (k a b : Int) (w : World) (hk : -9223372036854775808 ≤ k ∧ k ≤ 9223372036854775807) (ha : isU a) (hb : isU b) (h : Rdr w R) :
    Calls Try.prog 46 #[.agg #[.int .i64 k, .int .u64 a, .int .u64 b], .pointer (some ⟨R, 0, none⟩)] w (DrK w R) := by
  have HN : Hid (∀ w, Rdr w R → Calls Try.prog 41 #[.pointer (some ⟨R, 0, none⟩)] w fun e w' => ∃ c : Int, 0 ≤ c ∧ c ≤ 255 ∧ e = .returned (.int .i64 c) ∧ Dr w R w') := fun w h => next_dr R w h
  have hRG : R < w.heap.size := h.lt
  have hne : w.heap.size ≠ w.heap.size + 1 := by omega
  have B1 : Below w.heap.size w (w.alloc (.cells #[.int .i64 k, .int .u64 a, .int .u64 b] 25)) := (Below.refl _ _).alloc (Nat.le_refl _) _
  have hsz : (w.alloc (.cells #[.int .i64 k, .int .u64 a, .int .u64 b] 25)).heap.size = w.heap.size + 1 := by simp
  have D0 := DrB.new (h.below B1)
  have D : DrB w R (w.heap.size + 1) ((w.alloc (.cells #[.int .i64 k, .int .u64 a, .int .u64 b] 25)).alloc (.cells #[.int .i64 0, .int .u64 0, .int .u64 0] 25)) := by
    rw [hsz] at D0
    exact ⟨D0.rd, rb_trans (rb_below B1) D0.gr, D0.bx⟩
  have X := (BoxK.new w 25 (.int .i64 k) (.int .u64 a) (.int .u64 b)).alloc (.cells #[.int .i64 0, .int .u64 0, .int .u64 0] 25)
  have ha0 := ha.1
  have ha1 := ha.2
  have hb0 := hb.1
  have hb1 := hb.2
  clear D0 B1 hsz h
  go_enter Try.func46, Try.ntmps46
  go_wp2_with fail
  generalize (w.alloc (.cells #[.int .i64 k, .int .u64 a, .int .u64 b] 25)).alloc (.cells #[.int .i64 0, .int .u64 0, .int .u64 0] 25) = W at *
  refine (HN.out _ D.rd).mono ?_
  rintro _ w1 ⟨c, c0, c1, rfl, d⟩
  replace D := D.step (by omega) d
  replace X := X.grown d.gr (by simp; omega)
  obtain ⟨yl, y0, y1, y2, g0, g1, g2⟩ := D.bx
  obtain ⟨xl, x0, x1, x2, f0, f1, f2⟩ := X
  by_cases d0 : c % 6 = 0
  · have e0 : (c % 6 == 0) = true := by rw [beq_iff_eq]; exact d0
    clear d0
    have D1 := D.setO (i := 0) hRG (Nat.le_refl _) hne (.int .i64 (3))
    go_wp2
    exact bodyPost_ret (results_box Try.results46 rfl (D1.bx.set3 _ _ _)) rfl (DrK.mk (by omega) ha hb (D1.done (by omega) (by omega) _ _ _))
  by_cases d1 : c % 6 = 1
  · have e0 : (c % 6 == 0) = false := by rw [beq_eq_false_iff_ne]; exact d0
    have e1 : (c % 6 == 1) = true := by rw [beq_iff_eq]; exact d1
    clear d0 d1
    have D1 := D.setO (i := 0) hRG (Nat.le_refl _) hne (.int .i64 (-1))
    go_wp2
    exact bodyPost_ret (results_box Try.results46 rfl (D1.bx.set3 _ _ _)) rfl (DrK.mk (by omega) ha hb (D1.done (by omega) (by omega) _ _ _))
  have e0 : (c % 6 == 0) = false := by rw [beq_eq_false_iff_ne]; exact d0
  have e1 : (c % 6 == 1) = false := by rw [beq_eq_false_iff_ne]; exact d1
  clear d0 d1
  go_wp2_with fail
  all_goals exact bodyPost_ret (results_box Try.results46 rfl (D.bx.set3 _ _ _)) rfl (DrK.mk (by omega) (by first | assumption | exact isU_wrap _ | (unfold isU; omega)) (by first | assumption | exact isU_wrap _ | (unfold isU; omega)) (D.done (by omega) (by omega) _ _ _))
end Go.Proofs.Ytjkmcdgjhfiklaa
