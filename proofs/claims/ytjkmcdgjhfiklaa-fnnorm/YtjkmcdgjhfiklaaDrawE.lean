/-
  CONTRACTS: the normal condition of whatever condition.
-/
import Derived.Test.YtjkmcdgjhfiklaaDrawD
namespace Go.Proofs.Ytjkmcdgjhfiklaa
open Go.RowKit
set_option linter.unusedVariables false

def NrmP (w : World) (e : Ending) (w' : World) : Prop := ∃ k a b : Int, (-9223372036854775808 ≤ k ∧ k ≤ 9223372036854775807) ∧ isU a ∧ isU b ∧ e = .returned (.agg #[.int .i64 k, .int .u64 a, .int .u64 b]) ∧ Below w.heap.size w w'
theorem NrmP.mk {w w' : World} {k a b : Int} (hk : -9223372036854775808 ≤ k ∧ k ≤ 9223372036854775807) (ha : isU a) (hb : isU b) (h : Below w.heap.size w w') : NrmP w (.returned (.agg #[.int .i64 k, .int .u64 a, .int .u64 b])) w' := ⟨k, a, b, hk, ha, hb, rfl, h⟩

set_option maxRecDepth 100000 in
set_option maxHeartbeats 4000000 in
theorem norm_gen (k a b : Int) (w : World) (hk : -9223372036854775808 ≤ k ∧ k ≤ 9223372036854775807) (ha : isU a) (hb : isU b) :
    Calls Try.prog 35 #[.agg #[.int .i64 k, .int .u64 a, .int .u64 b]] w (NrmP w) := by
  have HC : Hid (∀ w, Calls Try.prog 44 #[.agg #[.int .i64 k, .int .u64 a, .int .u64 b]] w (BlkP w)) := fun w => block_gen k a b w ha hb
  have HA : Hid (isU a) := ha
  have HB : Hid (isU b) := hb
  clear ha hb
  go_enter Try.func35, Try.ntmps35
  go_wp2_with fail
  have X := (BoxK.new w 25 (.int .i64 k) (.int .u64 a) (.int .u64 b)).alloc (.cells #[.int .i64 0, .int .u64 0, .int .u64 0] 25)
  have Y := BoxK.new (w.alloc (.cells #[.int .i64 k, .int .u64 a, .int .u64 b] 25)) 25 (.int .i64 0) (.int .u64 0) (.int .u64 0)
  have hsz : (w.alloc (.cells #[.int .i64 k, .int .u64 a, .int .u64 b] 25)).heap.size = w.heap.size + 1 := by simp
  have B0 : Below w.heap.size w ((w.alloc (.cells #[.int .i64 k, .int .u64 a, .int .u64 b] 25)).alloc (.cells #[.int .i64 0, .int .u64 0, .int .u64 0] 25)) := ((Below.refl _ _).alloc (Nat.le_refl _) _).alloc (by simp) _
  rw [hsz] at Y
  generalize (w.alloc (.cells #[.int .i64 k, .int .u64 a, .int .u64 b] 25)).alloc (.cells #[.int .i64 0, .int .u64 0, .int .u64 0] 25) = W at *
  clear hsz
  refine (HC.out _).mono ?_
  rintro _ w1 ⟨lo, hi, s, hlo, hhi, rfl, hb1⟩
  obtain ⟨_, x0, x1, x2, _, _, _⟩ := X.keep hb1
  have Y1 := Y.keep hb1
  obtain ⟨yl, y0, y1, y2, g0, g1, g2⟩ := Y.keep hb1
  have B1 := B0.trans (hb1.mono B0.size)
  have HLo : Hid (isU lo) := hlo
  have HHi : Hid (isU hi) := hhi
  have lo0 := hlo.1
  have lo1 := hlo.2
  have hi0 := hhi.1
  have hi1 := hhi.2
  have hG : w.heap.size ≤ w.heap.size + 1 := Nat.le_succ _
  clear X Y hb1 B0 HC hlo hhi
  cases s with
  | false =>
    go_wp2
    exact bodyPost_ret (results_box Try.results35 rfl (Y1.set3 _ _ _)) rfl (NrmP.mk hk HA.out HB.out (below_set3 B1 hG _ _ _))
  | true =>
    go_wp2_with fail
    go_loop [6] (fun i => ∃ k : Nat, k ≤ 65 ∧ i = .int .i64 ((k : Int) - 1)) (fun i => (intOf i + 1).toNat)
    case atStart => exact ⟨65, by omega, rfl⟩
    case round =>
      obtain ⟨q, hq, rfl⟩ := hrel
      cases q with
      | zero =>
        go_wp2
        exact bodyPost_ret (results_box Try.results35 rfl (Y1.set3 _ _ _)) rfl (NrmP.mk (by omega) HLo.out HHi.out (below_set3 B1 hG _ _ _))
      | succ q =>
        have hq1 : ((q + 1 : Nat) : Int) - 1 = (q : Int) := by omega
        rw [hq1]
        have hq64 : q ≤ 64 := by omega
        have hq0 : (0 : Int) ≤ (q : Int) := by omega
        have hl := low_le hq64
        have HL : Hid (∀ w, Calls Try.prog 45 #[.int .i64 (q : Int)] w fun e w' => e = .returned (.int .u64 (low q : Nat)) ∧ w' = w) := fun w => l3low_any q w hq64
        generalize low q = L at *
        have HW : Hid (18446744073709551615 - (L : Int) = 18446744073709551615 - (L : Int)) := rfl
        cases e1 : (IntKind.u64.wrap (hi - lo) == (L : Int)) with
        | false =>
          go_wp2_with fail
          refine (HL.out _).mono ?_
          rintro e w2 ⟨rfl, rfl⟩
          go_wp2
          go_round
          case rel => exact ⟨q, by omega, by go_num⟩
          case measure => simp [intOf]
        | true =>
          cases e2 : (bits .and .u64 lo (L : Int) == 0) with
          | false =>
            go_wp2_with fail
            refine (HL.out _).mono ?_
            rintro e w2 ⟨rfl, rfl⟩
            go_wp2
            go_round
            case rel => exact ⟨q, by omega, by go_num⟩
            case measure => simp [intOf]
          | true =>
            by_cases e64 : q = 64
            · subst e64
              go_wp2_with fail
              refine (HL.out _).mono ?_
              rintro e w2 ⟨rfl, rfl⟩
              go_wp2
              exact bodyPost_ret (results_box Try.results35 rfl (Y1.set3 _ _ _)) rfl (NrmP.mk (by omega) (by unfold isU; omega) (by unfold isU; omega) (below_set3 B1 hG _ _ _))
            · have e64' : ((q : Int) == 64) = false := by rw [beq_eq_false_iff_ne]; omega
              go_wp2_with fail
              refine (HL.out _).mono ?_
              rintro e w2 ⟨rfl, rfl⟩
              go_wp2
              exact bodyPost_ret (results_box Try.results35 rfl (Y1.set3 _ _ _)) rfl (NrmP.mk (by omega) (by unfold isU; omega) HLo.out (below_set3 B1 hG _ _ _))
end Go.Proofs.Ytjkmcdgjhfiklaa
