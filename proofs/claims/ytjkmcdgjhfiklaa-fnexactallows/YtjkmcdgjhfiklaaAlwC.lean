/-
  CONTRACTS of the model's Allows, third part.
-/
import Derived.Test.YtjkmcdgjhfiklaaAlwB
namespace Go.Proofs.Ytjkmcdgjhfiklaa
open Go.RowKit
set_option linter.unusedVariables false

theorem allowsP_eq (p : List E) (c : C) : allowsP p c = (validP p && (c.args.length == 6) && p.any fun e => hits e c) := rfl

set_option maxRecDepth 100000 in
set_option maxHeartbeats 4000000 in
theorem specAllows_any (p : List E) (c : C) (a a' : Option Addr) (cap cap' : Nat) (w : World) (hs : LSrc 3 PE w a p) (hu : USrc w a' c.args) (ho : okP p) (hok : ∀ y ∈ c.args, isU64 y) (hl : c.args.length ≤ 16777216) (hn : p.length ≤ 16777216) (hm : ∀ e ∈ p, e.rules.length ≤ 16777216) (hm2 : ∀ e ∈ p, ∀ r ∈ e.rules, r.length ≤ 16777216) :
    Calls Try.prog 23 #[.agg #[.slice a p.length cap], .agg #[.int .u32 c.arch, .int .u32 c.nr, .slice a' c.args.length cap']] w fun e w' => e = .returned (.bool (allowsP p c)) ∧ Below w.heap.size w w' := by
  have HV : Hid (∀ w1, Below w.heap.size w w1 → Calls Try.prog 18 #[.agg #[.slice a p.length cap]] w1 fun e w' => e = .returned (.bool (validP p)) ∧ Below w1.heap.size w1 w') := fun w1 hb => specValidP_any p a cap w1 (hs.below PE.stays hb) ho hn hm hm2
  have HA : Hid (validP p = true → c.args.length = 6 → ∀ w1, Below w.heap.size w w1 → Calls Try.prog 55 #[.agg #[.slice a p.length cap], .agg #[.int .u32 c.arch, .int .u32 c.nr, .slice a' 6 cap']] w1 fun e w' => e = .returned (.bool (p.any fun e => hits e c)) ∧ Below w1.heap.size w1 w') := fun h1 h2 w1 hb => l3allows_any p c a a' cap cap' w1 (hs.below PE.stays hb) (hu.below hb) ho hok h1 h2 hn
  rw [allowsP_eq]
  have B : Below w.heap.size w ((w.alloc (.cells #[.slice a p.length cap] 42)).alloc (.cells #[.int .u32 c.arch, .int .u32 c.nr, .slice a' c.args.length cap'] 52)) := ((Below.refl _ _).alloc (Nat.le_refl _) _).alloc (by simp) _
  have x0 := cell_step ((Below.refl _ _).alloc (Nat.le_refl _) (.cells #[.int .u32 c.arch, .int .u32 c.nr, .slice a' c.args.length cap'] 52)) (box1 w 42 (.slice a p.length cap))
  have Y := BoxK.new (w.alloc (.cells #[.slice a p.length cap] 42)) 52 (.int .u32 c.arch) (.int .u32 c.nr) (.slice a' c.args.length cap')
  have hsz : (w.alloc (.cells #[.slice a p.length cap] 42)).heap.size = w.heap.size + 1 := by simp
  rw [hsz] at Y
  clear hsz hs hu ho hok hm hm2
  generalize p.length = n at *
  generalize (p.any fun e => hits e c) = A at *
  generalize validP p = V at *
  generalize hm : c.args.length = m at *
  clear hm
  generalize c.arch = ca at *
  generalize c.nr = cn at *
  cases V with
  | false =>
    clear HA
    go_enter Try.func23, Try.ntmps23
    go_wp2_with fail
    refine (HV.out _ B).mono ?_
    rintro _ w1 ⟨rfl, hb1⟩
    have B1 := below_step hb1 B
    go_wp2
    go_ret
    exact ⟨rfl, B1⟩
  | true =>
    by_cases h6 : m = 6
    · subst h6
      have HA1 := HA.out (by first | rfl | trivial) (by first | rfl | trivial)
      have HA2 : Hid (∀ w1, Below w.heap.size w w1 → Calls Try.prog 55 #[.agg #[.slice a n cap], .agg #[.int .u32 ca, .int .u32 cn, .slice a' 6 cap']] w1 fun e w' => e = .returned (.bool A) ∧ Below w1.heap.size w1 w') := HA1
      clear HA HA1
      go_enter Try.func23, Try.ntmps23
      go_wp2_with fail
      refine (HV.out _ B).mono ?_
      rintro _ w1 ⟨rfl, hb1⟩
      have B1 := below_step hb1 B
      have x1 := cell_step hb1 x0
      have Y1 := Y.keep hb1
      have y0 := Y1.c0
      have y1 := Y1.c1
      have y2 := Y1.c2
      go_wp2_with fail
      refine (HA2.out _ B1).mono ?_
      rintro _ w2 ⟨rfl, hb2⟩
      have B2 := below_step hb2 B1
      cases A <;>
      · go_wp2
        go_ret
        exact ⟨rfl, B2⟩
    · have hb6 : ((m : Int) == 6) = false := by rw [beq_eq_false_iff_ne]; omega
      have hb7 : (m == 6) = false := by rw [beq_eq_false_iff_ne]; exact h6
      rw [hb7]
      clear HA
      go_enter Try.func23, Try.ntmps23
      go_wp2_with fail
      refine (HV.out _ B).mono ?_
      rintro _ w1 ⟨rfl, hb1⟩
      have B1 := below_step hb1 B
      have x1 := cell_step hb1 x0
      have Y1 := Y.keep hb1
      have y0 := Y1.c0
      have y1 := Y1.c1
      have y2 := Y1.c2
      go_wp2
      go_ret
      exact ⟨rfl, B1⟩
end Go.Proofs.Ytjkmcdgjhfiklaa
