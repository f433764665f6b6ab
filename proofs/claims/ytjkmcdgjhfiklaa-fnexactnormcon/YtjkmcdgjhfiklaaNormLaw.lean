/-
  THE LAW 'FnExactNormCon': its walk and its row.
-/
import Derived.Test.YtjkmcdgjhfiklaaRows
import Derived.Test.YtjkmcdgjhfiklaaCondJ
import Derived.Test.YtjkmcdgjhfiklaaOpenK
namespace Go.Proofs.Ytjkmcdgjhfiklaa.fnExactNormCon
open Go.ChangeShapes Go.WideShapes Go.ChangeAt Go.RowKit Go.Deep
set_option linter.unusedVariables false

set_option maxRecDepth 100000 in
set_option maxHeartbeats 2000000 in
theorem walk (c : K) (w : World) (ho : c.ok) :
    Calls Try.prog 3 #[conV c] w fun e w' => e = .returned (.bool true) ∧ Below w.heap.size w w' := by
  have H1 : Hid (∀ w, Calls Try.prog 10 #[conV c] w fun e w' => e = .returned (conV c) ∧ Below w.heap.size w w') := fun w => toCon_any c w
  have H2 : Hid (∀ w, Calls Try.prog 9 #[conV c] w fun e w' => e = .returned (conV (if validK c then normK c else c)) ∧ Below w.heap.size w w') := fun w => specNorm_any c w ho
  have H3 : Hid (∀ w, Calls Try.prog 11 #[conV c] w fun e w' => e = .returned (conV (if validK c then normK c else c)) ∧ Below w.heap.size w w') := fun w => implNorm_any c w ho
  have H4 : Hid (∀ d w, Calls Try.prog 12 #[conV d, conV d] w fun e w' => e = .returned (.bool true) ∧ Below w.heap.size w w') := fun d w => eqCon_same d w
  generalize (if validK c then normK c else c) = R at *
  obtain ⟨kind, a, b⟩ := c
  obtain ⟨rk, ra, rb⟩ := R
  simp only [conV] at H1 H2 H3 H4 ⊢
  go_enter Try.func3, Try.ntmps3
  go_wp2_with fail
  have X := BoxK.new w 24 (.int .i64 kind) (.int .u64 (a : Int)) (.int .u64 (b : Int))
  have B0 : Below w.heap.size w (w.alloc (.cells #[.int .i64 kind, .int .u64 (a : Int), .int .u64 (b : Int)] 24)) := (Below.refl _ _).alloc (Nat.le_refl _) _
  generalize w.alloc (.cells #[.int .i64 kind, .int .u64 (a : Int), .int .u64 (b : Int)] 24) = W at *
  refine (H1.out _).mono ?_
  rintro e w1 ⟨rfl, b1⟩
  have X1 := X.keep b1
  have B1 := B0.trans (b1.mono B0.size)
  clear X B0 b1
  go_wp2_with fail
  refine (H2.out _).mono ?_
  rintro e w2 ⟨rfl, b2⟩
  have X2 := X1.keep b2
  have B2 := B1.trans (b2.mono B1.size)
  clear X1 B1 b2
  have X3 := X2.alloc (.cells #[.int .i64 rk, .int .u64 (ra : Int), .int .u64 (rb : Int)] 25)
  have Y3 := BoxK.new w2 25 (.int .i64 rk) (.int .u64 (ra : Int)) (.int .u64 (rb : Int))
  have B3 := B2.alloc B2.size (.cells #[.int .i64 rk, .int .u64 (ra : Int), .int .u64 (rb : Int)] 25)
  clear X2 B2
  obtain ⟨_, x0, x1, x2, _, _, _⟩ := X3
  go_wp2_with fail
  refine (H1.out _).mono ?_
  rintro e w4 ⟨rfl, b4⟩
  have Y4 := Y3.keep b4
  have B4 := B3.trans (b4.mono B3.size)
  clear Y3 B3 b4 x0 x1 x2
  go_wp2_with fail
  refine (H3.out _).mono ?_
  rintro e w5 ⟨rfl, b5⟩
  have Y5 := Y4.keep b5
  have B5 := B4.trans (b5.mono B4.size)
  clear Y4 B4 b5
  have Y6 := Y5.alloc (.cells #[.int .i64 rk, .int .u64 (ra : Int), .int .u64 (rb : Int)] 25)
  have Z6 := BoxK.new w5 25 (.int .i64 rk) (.int .u64 (ra : Int)) (.int .u64 (rb : Int))
  have B6 := B5.alloc B5.size (.cells #[.int .i64 rk, .int .u64 (ra : Int), .int .u64 (rb : Int)] 25)
  clear Y5 B5
  obtain ⟨_, y0, y1, y2, _, _, _⟩ := Y6
  obtain ⟨_, z0, z1, z2, _, _, _⟩ := Z6
  go_wp2_with fail
  refine (H4.out ⟨rk, ra, rb⟩ _).mono ?_
  rintro e w7 ⟨rfl, b7⟩
  have B7 := B6.trans (b7.mono B6.size)
  go_wp2
  go_ret
  exact ⟨rfl, B7⟩

set_option maxRecDepth 100000 in
theorem lifted (os : Os) (started : os.Started) (H : Type) (enc : TypeId × Value → H) :
    ReturnsInHanded {} Try.checked os 3 .any (Rows.fnExactNormConSpec.pre6 enc Try.prog Try.f3 Rows.fnExactNormConRow.domain false) (Rows.fnExactNormConSpec.post enc Try.prog Try.f3 false true false false) := by
  refine returnsInHanded_of_change (C := Try.checked) own started (by kernel_rfl) Try.func3
    (ChangeSpec.witness6 (enc := enc) (C := Try.checked) false ⟨#[], #[.agg #[.int .i64 0, .int .u64 0, .int .u64 0]], []⟩ 8 (by kernel_rfl) (by kernel_rfl) (by kernel_rfl) (by kernel_rfl)) ?_
  intro W base args ds gs before hval0 hW hcnd _
  have hval : ∀ (j : Nat) t v, Try.f3.params[j]? = some t → args[j]? = some v → Value.okWide Try.prog W .any base t v := hval0
  have hW' := hW
  obtain ⟨p, q, hA0, hV, rfl, hfz, hnd⟩ := hW
  have hA : DataW.TrodAll enc Try.prog W 0 (fun _ => true) true Try.f3.params.toList args.toList ds p := hA0
  rw [Try.params3] at hA hval
  obtain ⟨v0, vs0, d0, ds0, p0, q0, hargs, rfl, rfl, h0, r0⟩ := trodAll_cons hA
  obtain ⟨rfl, rfl, rfl⟩ := trodAll_nil r0
  obtain rfl : args = #[v0] := by cases args; simp_all
  obtain ⟨rfl, rfl⟩ := trodVars_none hV
  have k0 := h0
  have lt0 : ∀ x ∈ p0, x.block < W.heap.size := by obtain ⟨m, hm⟩ := k0; exact DataW.trod_lt m _ _ _ hm
  obtain ⟨c, rfl, hok⟩ := open_con (hval 0 24 v0 rfl rfl) h0
  clear hA0 hval0
  refine (walk c W hok).mono fun e W' ⟨he, bel⟩ => ?_
  subst he
  exact ⟨_, rfl, _, _, _, [], _, [], hW', trodAll_mk1 (shut_bool Try.underlying4 _), (trodAll_cons_mk (Below.trod laidOut (by kernel_rfl) (of_decide_eq_true (by kernel_rfl)) k0 bel lt0) trodAll_mk0), rfl, bel.frame _, fun h => by cases h⟩

theorem proved : Rows.FnExactNormConSaid :=
  OpenClaim.holds_of_wide 3 Try.f3 rfl rfl rfl rfl rfl rfl rfl ⟨rfl, rfl, rfl, rfl, rfl⟩ rfl rfl rfl rfl rfl (by kernel_rfl) Try.func3 (by kernel_rfl)
    (of_decide_eq_true (by kernel_rfl)) (by unfold Func.isWrapper; first | (rw [if_pos (by decide +kernel)]; kernel_rfl) | (rw [if_neg (by decide +kernel)]; exact ⟨rfl, rfl⟩))
    (fun os started H enc _ => lifted os started H enc)
#print axioms proved
end Go.Proofs.Ytjkmcdgjhfiklaa.fnExactNormCon
