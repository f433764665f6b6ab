/-
  CONTRACTS: the block of whatever condition.
-/
import Derived.Test.YtjkmcdgjhfiklaaDrawB
namespace Go.Proofs.Ytjkmcdgjhfiklaa
open Go.RowKit
set_option linter.unusedVariables false

/-- a range, or none: whatever -/
def BlkP (w : World) (e : Ending) (w' : World) : Prop := ∃ (lo hi : Int) (s : Bool), isU lo ∧ isU hi ∧ e = .returned (.tuple #[.int .u64 lo, .int .u64 hi, .bool s]) ∧ Below w.heap.size w w'
theorem BlkP.mk {w w' : World} {lo hi : Int} {s : Bool} (h : isU lo) (h' : isU hi) (hb : Below w.heap.size w w') : BlkP w (.returned (.tuple #[.int .u64 lo, .int .u64 hi, .bool s])) w' := ⟨lo, hi, s, h, h', rfl, hb⟩

set_option maxRecDepth 100000 in
set_option maxHeartbeats 4000000 in
theorem block_gen (k a b : Int) (w : World) (ha : isU a) (hb : isU b) :
    Calls Try.prog 44 #[.agg #[.int .i64 k, .int .u64 a, .int .u64 b]] w (BlkP w) := by
  have B : Below w.heap.size w (w.alloc (.cells #[.int .i64 k, .int .u64 a, .int .u64 b] 25)) := (Below.refl _ _).alloc (Nat.le_refl _) _
  have z0 : isU 0 := ⟨by decide, by decide⟩
  have z1 : isU 18446744073709551615 := ⟨by decide, by decide⟩
  by_cases h0 : k = 0
  · subst h0
    go_enter Try.func44, Try.ntmps44
    go_wp2
    exact bodyPost_ret (v := .tuple #[.int .u64 0, .int .u64 18446744073709551615, .bool true]) (by simp [results, Try.results44, go_sem]) rfl (BlkP.mk z0 z1 B)
  by_cases h2 : k = 2
  · subst h2
    go_enter Try.func44, Try.ntmps44
    go_wp2_with fail
    go_quiet (fail)
    go_wp2
    exact bodyPost_ret (v := .tuple #[.int .u64 a, .int .u64 b, .bool true]) (by simp [results, Try.results44, go_sem]) rfl (BlkP.mk ha hb (by first | exact B.drew | exact below_drewN B _))
  have k0 : (k == 0) = false := by simp [h0]
  have k2 : (k == 2) = false := by simp [h2]
  have HA : Hid (isU a) := ha
  have HB : Hid (isU b) := hb
  clear h0 h2 ha hb
  go_enter Try.func44, Try.ntmps44
  go_wp2_with fail
  have X := BoxK.new w 25 (.int .i64 k) (.int .u64 a) (.int .u64 b)
  go_loopw [5] (fun i wr => ∃ n : Nat, n ≤ 65 ∧ i = .int .i64 n ∧ BoxK wr w.heap.size (.int .i64 k) (.int .u64 a) (.int .u64 b) ∧ Below w.heap.size w wr) (fun i _ => 65 - (intOf i).toNat)
  case atStart => exact ⟨0, by omega, rfl, X, B⟩
  case round =>
    clear X B
    obtain ⟨n, hn, rfl, X, B⟩ := hrel
    by_cases hlt : n ≤ 64
    · have hl := low_le hlt
      have HL : Hid (∀ w, Calls Try.prog 45 #[.int .i64 (n : Int)] w fun e w' => e = .returned (.int .u64 (low n : Nat)) ∧ w' = w) := fun w => l3low_any n w hlt
      obtain ⟨_, x0, x1, x2, _, _, _⟩ := X.drew
      obtain ⟨_, z0, z1, z2, _, _, _⟩ := X.drew.drew
      have hw := wrap_sub_ones hl
      generalize low n = L at *
      by_cases e : a = 18446744073709551615 - (L : Int)
      · have e1 : (a == 18446744073709551615 - (L : Int)) = true := by rw [beq_iff_eq]; exact e
        clear e
        go_wp2_with fail
        go_region_held3 (fun w' => w'.cell? ⟨w.heap.size, 1, none⟩ = some (.int .u64 a))
          (first | assumption | (simp [*]; done))
          ((go_at_call 45; refine (HL.out _).mono ?_; rintro e w1 ⟨rfl, rfl⟩))
        go_wp2_with fail
        go_region_held3 (fun w' => w'.cell? ⟨w.heap.size, 2, none⟩ = some (.int .u64 b))
          (first | assumption | (simp [*]; done))
          ((go_at_call 45; refine (HL.out _).mono ?_; rintro e w1 ⟨rfl, rfl⟩))
        go_wp2
        exact bodyPost_ret (v := .tuple #[.int .u64 b, .int .u64 (IntKind.u64.wrap (b + (L : Int))), .bool true]) (by simp [results, Try.results44, go_sem]) rfl (BlkP.mk HB.out (isU_wrap _) B.drew.drew)
      · have e1 : (a == 18446744073709551615 - (L : Int)) = false := by rw [beq_eq_false_iff_ne]; exact e
        clear e
        go_wp2_with fail
        go_region_held3 (fun w' => w'.cell? ⟨w.heap.size, 1, none⟩ = some (.int .u64 a))
          (first | assumption | (simp [*]; done))
          ((go_at_call 45; refine (HL.out _).mono ?_; rintro e w1 ⟨rfl, rfl⟩))
        go_wp2
        go_roundw
        case rel => exact ⟨n + 1, by omega, by go_num, X.drew, B.drew⟩
        case measure => simp [intOf]; omega
    · have hn' : n = 65 := by omega
      subst hn'
      go_wp2
      exact bodyPost_ret (v := .tuple #[.int .u64 0, .int .u64 0, .bool false]) (by simp [results, Try.results44, go_sem]) rfl (BlkP.mk z0 z0 B)
end Go.Proofs.Ytjkmcdgjhfiklaa
