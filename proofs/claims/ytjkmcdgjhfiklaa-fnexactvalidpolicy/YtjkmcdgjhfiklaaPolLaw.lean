/-
  THE LAW 'FnExactValidPolicy': its walk and its row.
-/
import Derived.Test.YtjkmcdgjhfiklaaRows
import Derived.Test.YtjkmcdgjhfiklaaPolA
import Derived.Test.YtjkmcdgjhfiklaaPolD
import Derived.Test.YtjkmcdgjhfiklaaPolY
import Derived.Test.YtjkmcdgjhfiklaaPolW
import Derived.Test.YtjkmcdgjhfiklaaPolEr
import Derived.Test.YtjkmcdgjhfiklaaOpenP
namespace Go.Proofs.Ytjkmcdgjhfiklaa.fnExactValidPolicy
open Go.ChangeShapes Go.WideShapes Go.ChangeAt Go.RowKit Go.Deep
set_option linter.unusedVariables false

set_option maxRecDepth 100000 in
set_option maxHeartbeats 2000000 in
theorem walk0 (n cap : Nat) (a : Option Addr) (V : Bool) (z : Int) (S : World → Option Addr → Prop) (w : World) (hz : 0 ≤ z)
    (H0 : Hid (∀ w1, Below w.heap.size w w1 → Calls Try.prog 17 #[.agg #[.slice a n cap], .int .i64 1048576] w1 fun e w' => e = .returned (.int .i64 z) ∧ Below w1.heap.size w1 w'))
    (H1 : Hid (∀ w1, Below w.heap.size w w1 → Calls Try.prog 19 #[.agg #[.slice a n cap]] w1 fun e w' => ∃ a2 cap2, e = .returned (.agg #[.slice a2 n cap2]) ∧ S w' a2 ∧ Below w1.heap.size w1 w'))
    (H2 : Hid (∀ a2 cap2 w1, S w1 a2 → Calls Try.prog 18 #[.agg #[.slice a2 n cap2]] w1 fun e w' => e = .returned (.bool V) ∧ Below w1.heap.size w1 w'))
    (H3 : Hid (∀ a2 cap2 w1, S w1 a2 → Calls Try.prog 20 #[.agg #[.slice a2 n cap2]] w1 fun e w' => e = .returned (.bool V) ∧ Below w1.heap.size w1 w'))
    (H4 : Hid (∀ a2 a3 cap2 cap3 w1, S w1 a2 → S w1 a3 → Calls Try.prog 21 #[.agg #[.slice a2 n cap2], .agg #[.slice a3 n cap3]] w1 fun e w' => e = .returned (.bool true) ∧ Below w1.heap.size w1 w'))
    (HK : Hid (∀ wa wb a2, Below wa.heap.size wa wb → S wa a2 → S wb a2)) :
    Calls Try.prog 6 #[.agg #[.slice a n cap]] w fun e w' => e = .returned (.bool true) ∧ Below w.heap.size w w' := by
  have hz' : ¬ z < 0 := by omega
  have X0 := Box1.new w 37 (.slice a n cap)
  have B0 : Below w.heap.size w (w.alloc (.cells #[.slice a n cap] 37)) := (Below.refl _ _).alloc (Nat.le_refl _) _
  go_enter Try.func6, Try.ntmps6
  go_wp2_with fail
  refine (H0.out _ B0).mono ?_
  rintro e w1 ⟨rfl, hb1⟩
  have B1 := below_step hb1 B0
  have X1 := X0.keep hb1
  have x1 := X1.c0
  clear hb1 B0 X0
  go_wp2_with fail
  refine (H1.out _ B1).mono ?_
  rintro e w2 ⟨a2, cap2, rfl, hS2, hb2⟩
  have B2 := below_step hb2 B1
  have X2 := X1.keep hb2
  clear hb2 B1 X1 x1
  go_wp2_with fail
  refine (H2.out _ _ _ hS2).mono ?_
  rintro e w3 ⟨rfl, hb3⟩
  have B3 := below_step hb3 B2
  have X3 := X2.keep hb3
  have x3 := X3.c0
  clear hb3 B2 X2 hS2
  go_wp2_with fail
  refine (H1.out _ B3).mono ?_
  rintro e w4 ⟨a3, cap3, rfl, hS4, hb4⟩
  have B4 := below_step hb4 B3
  have X4 := X3.keep hb4
  have x4 := X4.c0
  clear hb4 B3 X3 x3
  go_wp2_with fail
  have hb5 : Below w4.heap.size w4 (w4.alloc (.cells #[.slice a3 n cap3] 42)) := (Below.refl _ _).alloc (Nat.le_refl _) _
  have Y5 := Box1.new w4 42 (.slice a3 n cap3)
  have X5 := X4.keep hb5
  have B5 := below_step hb5 B4
  have hS5 := HK.out _ _ _ hb5 hS4
  generalize w4.heap.size = D at *
  generalize w4.alloc (.cells #[.slice a3 n cap3] 42) = w5 at *
  clear hb5 B4 X4 x4 hS4
  refine (H3.out _ _ _ hS5).mono ?_
  rintro e w6 ⟨rfl, hb6⟩
  have B6 := below_step hb6 B5
  have X6 := X5.keep hb6
  have Y6 := Y5.keep hb6
  have hS6 := HK.out _ _ _ hb6 hS5
  clear hb6 B5 X5 Y5 hS5
  go_wp2_with fail
  have SK : Hid (∀ wa wb, Below wa.heap.size wa wb → (Below w.heap.size w wa ∧ wa.cell? ⟨w.heap.size, 0, none⟩ = some (.slice a n cap) ∧ wa.cell? ⟨D, 0, none⟩ = some (.slice a3 n cap3) ∧ S wa a3) → (Below w.heap.size w wb ∧ wb.cell? ⟨w.heap.size, 0, none⟩ = some (.slice a n cap) ∧ wb.cell? ⟨D, 0, none⟩ = some (.slice a3 n cap3) ∧ S wb a3)) := fun wa wb hb ⟨s, x, y, q⟩ =>
    ⟨below_step hb s, cell_step hb x, cell_step hb y, HK.out _ _ _ hb q⟩
  have hS7 : Below w.heap.size w w6.drew ∧ w6.drew.cell? ⟨w.heap.size, 0, none⟩ = some (.slice a n cap) ∧ w6.drew.cell? ⟨D, 0, none⟩ = some (.slice a3 n cap3) ∧ S w6.drew a3 := SK.out w6 w6.drew ((Below.refl _ _).drew) ⟨B6, X6.c0, Y6.c0, hS6⟩
  clear B6 X6 Y6 hS6
  go_region_held3 (fun w' => Below w.heap.size w w' ∧ w'.cell? ⟨w.heap.size, 0, none⟩ = some (.slice a n cap) ∧ w'.cell? ⟨D, 0, none⟩ = some (.slice a3 n cap3) ∧ S w' a3)
    (assumption)
    (first
      | (go_at_call 19; refine (H1.out _ (And.left (by assumption))).mono ?_; rintro e w8 ⟨a8, cap8, rfl, hN8, hb8⟩; have hS8 := SK.out _ _ hb8 (by assumption))
      | (go_at_call 21; refine (H4.out _ _ _ _ _ (And.right (And.right (And.right hS8))) hN8).mono ?_; rintro e w9 ⟨rfl, hb9⟩; have hS9 := SK.out _ _ hb9 hS8))
  all_goals go_wp2
  go_ret
  have B9 : Below w.heap.size w w9 := hS9.1
  exact ⟨rfl, B9⟩

set_option maxRecDepth 100000 in
set_option maxHeartbeats 1000000 in
theorem walk1 (n cap : Nat) (a : Option Addr) (w : World)
    (H0 : Hid (∀ w1, Below w.heap.size w w1 → Calls Try.prog 17 #[.agg #[.slice a n cap], .int .i64 1048576] w1 fun e w' => e = .returned (.int .i64 (-1)) ∧ Below w1.heap.size w1 w')) :
    Calls Try.prog 6 #[.agg #[.slice a n cap]] w fun e w' => e = .returned (.bool true) ∧ Below w.heap.size w w' := by
  have B0 : Below w.heap.size w (w.alloc (.cells #[.slice a n cap] 37)) := (Below.refl _ _).alloc (Nat.le_refl _) _
  go_enter Try.func6, Try.ntmps6
  go_wp2_with fail
  refine (H0.out _ B0).mono ?_
  rintro e w1 ⟨rfl, hb1⟩
  have B1 := below_step hb1 B0
  go_wp2
  go_ret
  exact ⟨rfl, B1⟩

theorem walk (p : List E) (a : Option Addr) (cap : Nat) (w : World) (hs : LSrc 3 PE w a p) (hm : p.length ≤ maxLen) (hin : ∀ e ∈ p, EntryIn e) :
    Calls Try.prog 6 #[.agg #[.slice a p.length cap]] w fun e w' => e = .returned (.bool true) ∧ Below w.heap.size w w' := by
  have ho : okP p := fun e he => (hin e he).1
  have hl : p.length ≤ 9223372036854775807 ∧ ∀ e ∈ p, e.rules.length ≤ 9223372036854775807 ∧ ∀ r ∈ e.rules, r.length ≤ 9223372036854775807 := by
    unfold EntryIn maxLen at hin
    unfold maxLen at hm
    exact ⟨by omega, fun e he => ⟨by have := (hin e he).2.1; omega, fun r hr => by have := (hin e he).2.2 r hr; omega⟩⟩
  have H0 : ∀ w1, Below w.heap.size w w1 → Calls Try.prog 17 #[.agg #[.slice a p.length cap], .int .i64 1048576] w1 fun e w' => e = .returned (.int .i64 (szF 1048576 (sizeP p))) ∧ Below w1.heap.size w1 w' :=
    fun w1 hb => szPolicy_any p a cap 1048576 w1 (hs.below PE.stays hb) hl.1 hl.2 (by omega) (by omega)
  by_cases h : (1048576 : Int) < sizeP p
  · rw [szF_no h] at H0
    exact walk1 _ cap a w H0
  · rw [szF_yes h] at H0
    have hsz : sizeP p ≤ 1048576 := by omega
    have hp : p.length ≤ 1048576 := by unfold sizeP at hsz; omega
    have he : ∀ e ∈ p, e.rules.length ≤ 1048576 ∧ ∀ r ∈ e.rules, r.length ≤ 1048576 := by
      intro e he
      have h1 : sizeE e ≤ sumBy sizeE p := sumBy_mem sizeE he
      have h2 : sizeE e ≤ 1048576 := by unfold sizeP at hsz; omega
      unfold sizeE sizeRs at h2
      refine ⟨by omega, fun r hr => ?_⟩
      have h3 : r.length ≤ sumBy List.length e.rules := sumBy_mem List.length hr
      omega
    have he' : ∀ e ∈ p, e.rules.length ≤ 16777216 ∧ ∀ r ∈ e.rules, r.length ≤ 16777216 := fun e h => ⟨by have := (he e h).1; omega, fun r hr => by have := (he e h).2 r hr; omega⟩
    exact walk0 p.length cap a (validP p) _ (fun w a => LSrc 3 PE w a p) w (by omega) H0
      (fun w1 hb => (toPolicy_any p a cap w1 (hs.below PE.stays hb) hp he).mono fun e w' ⟨a2, cap2, h1, h2, h3⟩ => ⟨a2, cap2, h1, h2.plain fun _ _ _ h => h.plain, h3⟩)
      (fun a2 cap2 w1 h => specValidP_any p a2 cap2 w1 h ho (by omega) (fun e h => (he' e h).1) (fun e h => (he' e h).2))
      (fun a2 cap2 w1 h => implValidP_any p a2 cap2 w1 h ho (by omega) (fun e h => (he' e h).1) (fun e h => (he' e h).2))
      (fun a2 a3 cap2 cap3 w1 h h' => eqPolicy_any p a2 a3 cap2 cap3 w1 h h' (by omega) he')
      (fun wa wb a2 hb h => h.below PE.stays hb)

set_option maxRecDepth 100000 in
theorem lifted (os : Os) (started : os.Started) (H : Type) (enc : TypeId × Value → H) :
    ReturnsInHanded {} Try.checked os 6 .any (Rows.fnExactValidPolicySpec.pre6 enc Try.prog Try.f6 Rows.fnExactValidPolicyRow.domain false) (Rows.fnExactValidPolicySpec.post enc Try.prog Try.f6 false true false false) := by
  refine returnsInHanded_of_change (C := Try.checked) own started (by kernel_rfl) Try.func6
    (ChangeSpec.witness6 (enc := enc) (C := Try.checked) false ⟨#[], #[.agg #[.slice none 0 0]], []⟩ 8 (by kernel_rfl) (by kernel_rfl) (by kernel_rfl) (by kernel_rfl)) ?_
  intro W base args ds gs before hval0 hW hcnd _
  have hval : ∀ (j : Nat) t v, Try.f6.params[j]? = some t → args[j]? = some v → Value.okWide Try.prog W .any base t v := hval0
  have hW' := hW
  obtain ⟨p, q, hA0, hV, rfl, hfz, hnd⟩ := hW
  have hA : DataW.TrodAll enc Try.prog W 0 (fun _ => true) true Try.f6.params.toList args.toList ds p := hA0
  rw [Try.params6] at hA hval
  obtain ⟨v0, vs0, d0, ds0, p0, q0, hargs, rfl, rfl, h0, r0⟩ := trodAll_cons hA
  obtain ⟨rfl, rfl, rfl⟩ := trodAll_nil r0
  obtain rfl : args = #[v0] := by cases args; simp_all
  obtain ⟨rfl, rfl⟩ := trodVars_none hV
  have k0 := h0
  have lt0 : ∀ x ∈ p0, x.block < W.heap.size := by obtain ⟨m, hm⟩ := k0; exact DataW.trod_lt m _ _ _ hm
  obtain ⟨pp, a, cap, rfl, hml, hsrc, hin⟩ := open_policy (hval 0 37 v0 rfl rfl) h0
  clear hA0 hval0
  refine (walk pp a cap W hsrc hml hin).mono fun e W' ⟨he, bel⟩ => ?_
  subst he
  exact ⟨_, rfl, _, _, _, [], _, [], hW', trodAll_mk1 (shut_bool Try.underlying4 _), (trodAll_cons_mk (Below.trod laidOut (by kernel_rfl) (of_decide_eq_true (by kernel_rfl)) k0 bel lt0) trodAll_mk0), rfl, bel.frame _, fun h => by cases h⟩

theorem proved : Rows.FnExactValidPolicySaid :=
  OpenClaim.holds_of_wide 6 Try.f6 rfl rfl rfl rfl rfl rfl rfl ⟨rfl, rfl, rfl, rfl, rfl⟩ rfl rfl rfl rfl rfl (by kernel_rfl) Try.func6 (by kernel_rfl)
    (of_decide_eq_true (by kernel_rfl)) (by unfold Func.isWrapper; first | (rw [if_pos (by decide +kernel)]; kernel_rfl) | (rw [if_neg (by decide +kernel)]; exact ⟨rfl, rfl⟩))
    (fun os started H enc _ => lifted os started H enc)
#print axioms proved
end Go.Proofs.Ytjkmcdgjhfiklaa.fnExactValidPolicy
