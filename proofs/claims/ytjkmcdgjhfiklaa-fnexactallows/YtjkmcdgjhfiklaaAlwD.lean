/-
  CONTRACTS of the program's Allows: one rule.
-/
import Derived.Test.YtjkmcdgjhfiklaaAlwB
import Derived.Test.YtjkmcdgjhfiklaaCondL
namespace Go.Proofs.Ytjkmcdgjhfiklaa
open Go.RowKit
set_option linter.unusedVariables false

theorem validR_at {r : List K} (h : validR r = true) (i : Nat) (hi : i < 6) : r.length = 6 ∧ validK (r.getD i K.zero) = true := by
  rw [validR, Bool.and_eq_true] at h
  have h6 : r.length = 6 := by simpa using h.1
  exact ⟨h6, (all_getD K.zero validK r).1 h.2 i (by omega)⟩

theorem no_nil {c : K} (h : Normal c) {T : TypeId} {P : Value} (e : setV c = .iface T P) (w : World) : (nilAhead 283 T P "loop.example/s0039/impl.holds").run Try.prog w = .ok (some false) w := by
  rcases h with rfl | ⟨a, b, rfl, _⟩ | ⟨a, b, rfl, _⟩
  · cases e; kernel_rfl
  · cases e; kernel_rfl
  · cases e; kernel_rfl

/-- a condition that is valid, turned into the program's own, and its method -/
theorem cond_holds (c : K) (v : Int) (ho : c.ok) (hc : validK c = true) (hv : isU64 v) : ∃ T P F, (∀ w, Calls Try.prog 37 #[conV c] w fun e w' => e = .returned (.iface T P) ∧ Below w.heap.size w w') ∧ (∀ w, (method 283 T P "loop.example/s0039/impl.holds").run Try.prog w = .ok (F, P) w) ∧ (∀ (xs : Array Value) (w : World), (callFunc F xs).run Try.prog w = .ok (.enter F xs) w) ∧ (∀ w, (nilAhead 283 T P "loop.example/s0039/impl.holds").run Try.prog w = .ok (some false) w) ∧
    ∀ w, Calls Try.prog F #[P, .int .u64 v] w fun e w' => e = .returned (.bool (holdsK c v.toNat)) ∧ Below w.heap.size w w' := by
  unfold isU64 at hv
  obtain ⟨T, P, F, e1, e2, e4, e3⟩ := meth_holds (normK_normal ho hc) (v := v.toNat) (by omega)
  rw [show ((v.toNat : Nat) : Int) = v by omega] at e3
  refine ⟨T, P, F, fun w => ?_, e2, e4, fun w => no_nil (normK_normal ho hc) e1 w, fun w => ?_⟩
  · have := conditionOf_any c w ho
    rw [e1] at this; exact this
  · have := e3 w
    rw [normK_holds ho hc (by omega)] at this
    exact this

set_option maxRecDepth 100000 in
set_option maxHeartbeats 8000000 in
theorem implRuleHolds_any (r : List K) (args : List Int) (a a' : Option Addr) (cap cap' : Nat) (w : World) (hs : LSrc 3 PK w a r) (hu : USrc w a' args) (ho : okR r) (hok : ∀ y ∈ args, isU64 y) (hv : validR r = true) (g6 : args.length = 6) :
    Calls Try.prog 82 #[.agg #[.slice a 6 cap], .slice a' 6 cap'] w fun e w' => e = .returned (.bool (ruleHolds r args)) ∧ Below w.heap.size w w' := by
  have h6 : r.length = 6 := (validR_at hv 0 (by omega)).1
  have HC : Hid (∀ i, i < 6 → ∃ T P F, (∀ w, Calls Try.prog 37 #[conV (r.getD i K.zero)] w fun e w' => e = .returned (.iface T P) ∧ Below w.heap.size w w') ∧ (∀ w, (method 283 T P "loop.example/s0039/impl.holds").run Try.prog w = .ok (F, P) w) ∧ (∀ (xs : Array Value) (w : World), (callFunc F xs).run Try.prog w = .ok (.enter F xs) w) ∧ (∀ w, (nilAhead 283 T P "loop.example/s0039/impl.holds").run Try.prog w = .ok (some false) w) ∧
    ∀ w, Calls Try.prog F #[P, .int .u64 (args.getD i 0)] w fun e w' => e = .returned (.bool (holdsK (r.getD i K.zero) (args.getD i 0).toNat)) ∧ Below w.heap.size w w') := fun i hi => cond_holds _ _ (okR_at ho i) (validR_at hv i hi).2 (argU hok (by omega))
  have HY : Hid ((∀ i, i < 6 → holdsK (r.getD i K.zero) (args.getD i 0).toNat = true) → ruleHolds r args = true) := ruleHolds_yes
  have HF : Hid (∀ i, i < 6 → holdsK (r.getD i K.zero) (args.getD i 0).toNat = false → ruleHolds r args = false) := fun i hi h => ruleHolds_no hi h
  have HP : Hid (∀ wr, Below w.heap.size w wr → ∀ i, i < 6 → ∃ b o, a = some ⟨b, o, none⟩ ∧ b < wr.heap.size ∧ PK wr b (o + i * 3) (r.getD i K.zero)) := fun wr hB i hi => (hs.below PK.stays hB).at (by omega) K.zero
  have HU : Hid (∀ wr, Below w.heap.size w wr → ∀ i, i < 6 → ∃ b o, a' = some ⟨b, o, none⟩ ∧ b < wr.heap.size ∧ wr.cell? ⟨b, o + i, none⟩ = some (.int .u64 (args.getD i 0))) := fun wr hB i hi => (hu.below hB).at (by omega)
  obtain ⟨V, hV⟩ : ∃ V, ruleHolds r args = V := ⟨_, rfl⟩
  rw [hV] at HY HF ⊢
  clear hV hs hu h6 g6 hok ho hv
  have B : Below w.heap.size w (w.alloc (.cells #[.slice a 6 cap] 85)) := (Below.refl _ _).alloc (Nat.le_refl _) _
  go_enter Try.func82, Try.ntmps82
  go_wp2_with fail
  go_loopw [10] (fun i wr => ∃ k : Nat, k ≤ 6 ∧ i = .int .i64 k ∧ Hid (∀ j, j < k → holdsK (r.getD j K.zero) (args.getD j 0).toNat = true) ∧ Below w.heap.size w wr) (fun i _ => 6 - (intOf i).toNat)
  case atStart => exact ⟨0, by omega, rfl, fun j hj => by omega, B⟩
  case round =>
    clear B
    obtain ⟨k, hk, rfl, HJ, B⟩ := hrel
    rename World => W0
    by_cases hk6 : k < 6
    · obtain ⟨b, o, rfl, hlt, c0, c1, c2⟩ := HP.out W0 B k hk6
      obtain ⟨b', o', rfl, hlt', d0⟩ := HU.out W0 B k hk6
      obtain ⟨T, P, F, HN0, e2, e4, e5, HM0⟩ := HC.out k hk6
      have HF1 : Hid (holdsK (r.getD k K.zero) (args.getD k 0).toNat = false → V = false) := HF.out k hk6
      have HJ1 : Hid (holdsK (r.getD k K.zero) (args.getD k 0).toNat = true → ∀ j, j < k + 1 → holdsK (r.getD j K.zero) (args.getD j 0).toNat = true) := fun h j hj => by
        by_cases hjk : j = k
        · subst hjk; exact h
        · exact HJ.out j (by omega)
      have hk6' : (k : Int) < 6 := by omega
      generalize hQ : holdsK (r.getD k K.zero) (args.getD k 0).toNat = Q at *
      clear hQ
      generalize args.getD k 0 = v at *
      generalize r.getD k K.zero = c at *
      obtain ⟨ck, ca, cb⟩ := c
      simp only at c0 c1 c2
      simp only [conV] at HN0
      have HN : Hid (∀ w, Calls Try.prog 37 #[.agg #[.int .i64 ck, .int .u64 (ca : Int), .int .u64 (cb : Int)]] w fun e w' => e = .returned (.iface T P) ∧ Below w.heap.size w w') := HN0
      have HM : Hid (∀ w, Calls Try.prog F #[P, .int .u64 v] w fun e w' => e = .returned (.bool Q) ∧ Below w.heap.size w w') := HM0
      clear HC HF HP HU HJ HN0 HM0
      have hbx : Below W0.heap.size W0 (W0.alloc (.cells #[.int .i64 ck, .int .u64 (ca : Int), .int .u64 (cb : Int)] 25)) := (Below.refl _ _).alloc (Nat.le_refl _) _
      have Xc := BoxK.new W0 25 (.int .i64 ck) (.int .u64 (ca : Int)) (.int .u64 (cb : Int))
      go_wp2_with fail
      have Bx := below_step hbx B
      have dx := cell_step hbx d0
      clear c0 c1 c2 d0 hlt hlt' hbx B
      generalize W0.heap.size = D at *
      generalize W0.alloc (.cells #[.int .i64 ck, .int .u64 (ca : Int), .int .u64 (cb : Int)] 25) = W1 at *
      have SK : Hid (∀ wa wb, Below wa.heap.size wa wb → (Below w.heap.size w wa ∧ wa.cell? ⟨D, 0, none⟩ = some (.int .i64 ck) ∧ wa.cell? ⟨D, 1, none⟩ = some (.int .u64 (ca : Int)) ∧ wa.cell? ⟨D, 2, none⟩ = some (.int .u64 (cb : Int)) ∧ wa.cell? ⟨b', o' + k, none⟩ = some (.int .u64 v)) → (Below w.heap.size w wb ∧ wb.cell? ⟨D, 0, none⟩ = some (.int .i64 ck) ∧ wb.cell? ⟨D, 1, none⟩ = some (.int .u64 (ca : Int)) ∧ wb.cell? ⟨D, 2, none⟩ = some (.int .u64 (cb : Int)) ∧ wb.cell? ⟨b', o' + k, none⟩ = some (.int .u64 v))) := fun wa wb hb ⟨s, x, y, z, q⟩ =>
        ⟨below_step hb s, cell_step hb x, cell_step hb y, cell_step hb z, cell_step hb q⟩
      have hS7 : Below w.heap.size w W1.drew ∧ W1.drew.cell? ⟨D, 0, none⟩ = some (.int .i64 ck) ∧ W1.drew.cell? ⟨D, 1, none⟩ = some (.int .u64 (ca : Int)) ∧ W1.drew.cell? ⟨D, 2, none⟩ = some (.int .u64 (cb : Int)) ∧ W1.drew.cell? ⟨b', o' + k, none⟩ = some (.int .u64 v) := SK.out W1 W1.drew ((Below.refl _ _).drew) ⟨Bx, Xc.c0, Xc.c1, Xc.c2, dx⟩
      clear Bx Xc dx
      go_region_held3 (fun w' => Below w.heap.size w w' ∧ w'.cell? ⟨D, 0, none⟩ = some (.int .i64 ck) ∧ w'.cell? ⟨D, 1, none⟩ = some (.int .u64 (ca : Int)) ∧ w'.cell? ⟨D, 2, none⟩ = some (.int .u64 (cb : Int)) ∧ w'.cell? ⟨b', o' + k, none⟩ = some (.int .u64 v))
        (assumption)
        (first
          | (go_at_call 37; refine (HN.out _).mono ?_; rintro _ w8 ⟨rfl, hb8⟩; have hS8 := SK.out _ _ hb8 (by assumption))
          | (refine (HM.out _).mono ?_; rintro _ w9 ⟨rfl, hb9⟩; have hS9 := SK.out _ _ hb9 (by assumption)))
      all_goals
        have B1 : Below w.heap.size w w9 := hS9.1
        clear hS9 hb9
        cases Q with
        | false =>
          have hVf : V = false := HF1.out (by first | rfl | trivial)
          subst hVf
          go_wp2
          go_ret
          exact ⟨rfl, B1⟩
        | true =>
          have HJ2 : Hid (∀ j, j < k + 1 → holdsK (r.getD j K.zero) (args.getD j 0).toNat = true) := HJ1.out (by first | rfl | trivial)
          go_wp2
          go_roundw
          case rel => exact ⟨k + 1, by omega, by go_num, HJ2, B1⟩
          case measure => simp [intOf]; omega
    · have hk' : k = 6 := by omega
      subst hk'
      have hVt : V = true := HY.out HJ.out
      subst hVt
      go_wp2
      go_ret
      exact ⟨rfl, B⟩
end Go.Proofs.Ytjkmcdgjhfiklaa
